/-
  impl.PremisesOk and impl.CountTrue: how many values of the letters make all premises true. No condition.
-/
import Derived.Test.YtdofeahbgodopaaWiths
namespace Go.Proofs.Ytdofeahbgodopaa
open Go.RowKit Go.Shelf
attribute [local go_sem] Oper.semAt_some

theorem prem_any (a : Option Addr) (cap : Nat) (ss : List ByteArray) (w : World) (h : StrsAt w a ss) :
    Calls Try.prog 39 #[.slice a ss.length cap] w (PremPost ss w) := by
  by_cases hl : ss.length ≤ 3
  · exact prem_short a cap ss hl w h
  · exact prem_long a cap ss (by omega) h.1 w
theorem prem_no (a : Option Addr) (cap : Nat) (ss : List ByteArray) (w : World) (h : StrsAt w a ss) (ho : prOf (ss.map bl) = none) :
    Calls Try.prog 39 #[.slice a ss.length cap] w fun e w' => e = .returned (.tuple #[.nilFunc, .bool false]) ∧ w.grownBy w' none := by
  refine (prem_any a cap ss w h).mono ?_
  rintro e w' ⟨g, ⟨_, he⟩ | ⟨ts, B, h1, _⟩⟩
  · exact ⟨he, g⟩
  · rw [ho] at h1; cases h1
theorem prem_yes (a : Option Addr) (cap : Nat) (ss : List ByteArray) (w : World) (h : StrsAt w a ss) {ts : List Tr} (ho : prOf (ss.map bl) = some ts) :
    Calls Try.prog 39 #[.slice a ss.length cap] w fun e w' => ∃ B, e = .returned (.tuple #[.func (.func 62) #[] #[.pointer (some ⟨B, 0, none⟩)], .bool true]) ∧ PremAt w' B ts ∧ w.grownBy w' none := by
  refine (prem_any a cap ss w h).mono ?_
  rintro e w' ⟨g, ⟨h1, _⟩ | ⟨us, B, h1, h2, h3⟩⟩
  · rw [ho] at h1; cases h1
  · rw [ho] at h1; cases h1
    exact ⟨B, h3, h2, g⟩

theorem premok_any (a : Option Addr) (cap : Nat) (ss : List ByteArray) (w : World) (h : StrsAt w a ss) :
    Calls Try.prog 14 #[.slice a ss.length cap] w fun e w' => e = .returned (.bool (premB (ss.map bl))) ∧ w.grownBy w' none := by
  cases ho : prOf (ss.map bl) with
  | none =>
    have cc := prem_no a cap ss w h ho
    rw [premB_f ho]
    clear h ho
    go_enter Try.func14, Try.ntmps14
    go_wp2_with fail
    refine cc.mono ?_
    rintro e w1 ⟨rfl, g1⟩
    go_wp2_with fail
    go_ret
    exact ⟨rfl, g1⟩
  | some ts =>
    have cc := prem_yes a cap ss w h ho
    rw [premB_t ho]
    clear h ho
    go_enter Try.func14, Try.ntmps14
    go_wp2_with fail
    refine cc.mono ?_
    rintro e w1 ⟨B, rfl, hP, g1⟩
    go_wp2_with fail
    go_ret
    exact ⟨rfl, g1⟩

theorem cnt_filt (N : Nat) (ts : List Tr) : ∀ K, ((List.range K).filter (allK N ts)).length = cntK N ts K := by
  intro K
  induction K with
  | zero => rfl
  | succ K ih =>
    rw [List.range_succ]
    cases h : allK N ts K
    · rw [filt_no h, cntK_miss h, ih]
    · rw [filt_yes h, cntK_hit h, List.length_append, ih]; rfl
theorem KpW.refl (n0 Bs Bq : Nat) (X : World) : KpW n0 Bs Bq X X := ⟨Below.refl _ _, rfl, rfl⟩

theorem cntr_no1 (n : Int) (a : Option Addr) (cap : Nat) (ss : List ByteArray) (w : World) (h : StrsAt w a ss) (ho : prOf (ss.map bl) = none) :
    Calls Try.prog 23 #[.int .i64 n, .slice a ss.length cap] w fun e w' => e = .returned (.int .i64 (-1)) ∧ w.grownBy w' none := by
  have cc := prem_no a cap ss w h ho
  clear h ho
  go_enter Try.func23, Try.ntmps23
  go_wp2_with fail
  refine cc.mono ?_
  rintro e w1 ⟨rfl, g1⟩
  clear cc
  go_wp2_with fail
  go_ret
  exact ⟨rfl, g1⟩
theorem cntr_no2 (n : Int) (a : Option Addr) (cap : Nat) (ss : List ByteArray) (w : World) (h : StrsAt w a ss) {ts : List Tr} (ho : prOf (ss.map bl) = some ts) (hi : inB n 1 6 = false) :
    Calls Try.prog 23 #[.int .i64 n, .slice a ss.length cap] w fun e w' => e = .returned (.int .i64 (-1)) ∧ w.grownBy w' none := by
  have cc := prem_yes a cap ss w h ho
  have cs := fun w => steps_any n w
  rw [hi] at cs
  clear h ho hi
  go_enter Try.func23, Try.ntmps23
  go_wp2_with fail
  refine cc.mono ?_
  rintro e w1 ⟨B, rfl, hP, g1⟩
  clear cc hP
  go_wp2_with fail
  refine (cs _).mono ?_
  rintro e w2 ⟨rfl, rfl⟩
  clear cs
  go_wp2_with fail
  go_ret
  exact ⟨rfl, g1⟩

set_option maxRecDepth 100000 in
set_option maxHeartbeats 4000000 in
theorem cntr_yes (N : Nat) (hN : 1 ≤ N ∧ N ≤ 6) (a : Option Addr) (cap : Nat) (ss : List ByteArray) (w : World) (h : StrsAt w a ss) {ts : List Tr} (ho : prOf (ss.map bl) = some ts) :
    Calls Try.prog 23 #[.int .i64 N, .slice a ss.length cap] w fun e w' => e = .returned (.int .i64 (cntK N ts (cub N))) ∧ w.grownBy w' none := by
  have cc := prem_yes a cap ss w h ho
  have cs := fun w => steps_any (N : Int) w
  rw [inB_t (n := N) (by omega)] at cs
  clear h ho
  refine (callsIn_wide (n := 5)).1 ?_
  refine callsIn_of_wp_marks Try.func23 rfl trivial ?_ rfl
  simp only [Try.ntmps23, List.size_toArray, List.length_cons, List.length_nil, Nat.reduceAdd, Nat.reduceSub, Array.replicate_succ, Array.replicate_zero, List.push_toArray, List.append_toArray, List.nil_append, List.cons_append]
  gi_wp2_with (refine ⟨trivial, ?_⟩; gi_at_call 39; refine (callsIn_wide.2 cc).mono ?_; clear cc; rintro e w1 ⟨B, rfl, hP, g1⟩)
  gi_wp2_with (refine ⟨trivial, ?_⟩; gi_at_call 52; refine (callsIn_wide.2 (cs _)).mono ?_; clear cs; rintro e w2 ⟨rfl, rfl⟩)
  gi_wp2_with (refine ⟨trivial, ?_⟩; gi_at_call 47; refine (withs_any _ _ trivial rfl _ _ _).mono ?_; rintro e w' ⟨rfl, rfl⟩)
  have c1 := ((BlkAt.new w1 #[.int .i64 0] 3).alloc (.cells #[.int .i64 N] 3)).alloc (.cells #[.func (.func 62) #[] #[.pointer (some ⟨B, 0, none⟩)]] 57)
  have c2 := (BlkAt.new (w1.alloc (.cells #[.int .i64 0] 3)) #[.int .i64 N] 3).alloc (.cells #[.func (.func 62) #[] #[.pointer (some ⟨B, 0, none⟩)]] 57)
  have c3 := BlkAt.new ((w1.alloc (.cells #[.int .i64 0] 3)).alloc (.cells #[.int .i64 N] 3)) #[.func (.func 62) #[] #[.pointer (some ⟨B, 0, none⟩)]] 57
  have hg : w1.grownBy (((w1.alloc (.cells #[.int .i64 0] 3)).alloc (.cells #[.int .i64 N] 3)).alloc (.cells #[.func (.func 62) #[] #[.pointer (some ⟨B, 0, none⟩)]] 57)) none := grownBy_trans (grownBy_trans (World.grownBy_alloc _ _ none) (World.grownBy_alloc _ _ none)) (World.grownBy_alloc _ _ none)
  rw [World.size_alloc] at c2
  rw [World.size_alloc, World.size_alloc] at c3
  obtain ⟨W0, hW0⟩ : ∃ W0, (((w1.alloc (.cells #[.int .i64 0] 3)).alloc (.cells #[.int .i64 N] 3)).alloc (.cells #[.func (.func 62) #[] #[.pointer (some ⟨B, 0, none⟩)]] 57)) = W0 := ⟨_, rfl⟩
  rw [hW0] at c1 c2 c3 hg ⊢
  have hsz : W0.heap.size = w1.heap.size + 1 + 1 + 1 := by rw [← hW0]; simp
  clear hW0
  have hw1 := g1.size
  have hB0 : Below w.heap.size w W0 := below_of (grownBy_trans g1 hg)
  have hcub := cub_le hN.2
  refine wpIn_rangeFunc_ownO rfl (show 1 ≤ 5 from by decide) (gf := 65) (lb := #[.pointer (some ⟨w1.heap.size + 1, 0, none⟩), .pointer (some ⟨w1.heap.size + 1 + 1, 0, none⟩)]) rfl trivial (enters_of Try.func65 (by kernel_rfl) rfl)
    (with_stops (w1.heap.size + 1) (w1.heap.size + 1 + 1) B w1.heap.size N hN ts w1 W0 hP rfl (c2.cell rfl) (c3.cell rfl) (below_of hg) (by omega)) kpW_t (kpW_b (by omega) (by omega) (by omega)) (Below.refl _ _) (fun _ => rfl)
    (fun pre W => BlkAt W w1.heap.size #[.int .i64 (pre.length : Nat)] 3 ∧ Below w.heap.size w W)
    (fun _ _ _ => False)
    (OwnFrom.and (Own.from (blk_own _ _ fun (pre : List Nat) => #[.int .i64 (pre.length : Nat)]) _) (ownFrom_below (Nat.le_refl _) (by omega)))
    (fun _ _ _ _ _ hs _ _ => hs)
    ⟨c1, hB0⟩
    (fun x a' _ => a' = { tmps := #[.int .i64 N, .slice a ss.length cap, undef, undef, .int .i64 0, .func (.func 62) #[] #[.pointer (some ⟨B, 0, none⟩)], .bool true, .pointer (some ⟨w1.heap.size, 0, none⟩), .tuple #[.func (.func 62) #[] #[.pointer (some ⟨B, 0, none⟩)], .bool true], .slice a ss.length cap, .tuple #[.func (.func 62) #[] #[.pointer (some ⟨B, 0, none⟩)], .bool true], .func (.func 62) #[] #[.pointer (some ⟨B, 0, none⟩)], .bool true, .bool true, .bool false, .bool false, .int .i64 N, .bool true, .bool false, .bool false, .int .i64 N, .func (.func 62) #[] #[.pointer (some ⟨B, 0, none⟩)], .func (.func 65) #[] #[.pointer (some ⟨w1.heap.size + 1, 0, none⟩), .pointer (some ⟨w1.heap.size + 1 + 1, 0, none⟩)], .agg #[.int .i64 N, .int .i64 (tA N x), .int .i64 (tB N x), .int .i64 (tC N x)], undef, undef, undef], defers := [] })
    (fun x a' => ownFrom_pure _ _) ?assign ?body ?done ?stop
  case assign =>
    rintro l pre x W K hi hK
    simp only [encK]
    gi_wp2
    exact hK _ _ (KeepsAt.refl _ _) (KpW.refl _ _ _ _) hi (by simp)
  case body =>
    rintro l pre x a' W hl hr ⟨hA, hB⟩ rfl hlt
    have n0 : W.cell? ⟨w1.heap.size, 0, none⟩ = some (.int .i64 (pre.length : Nat)) := hA.cell rfl
    have z0 := hA.frozen 0
    have hp3 : (pre.length : Int) ≤ 343 := by omega
    gi_wp2
    refine ⟨KeepsAt.setCell _ (by omega) _, ⟨(Below.refl _ W).setCell (p := ⟨w1.heap.size, 0, none⟩) (Nat.le_refl _) _, KpC.set _ (by simp) _, KpC.set _ (by show w1.heap.size ≠ w1.heap.size + 1 + 1; omega) _⟩, ?_, hB.setCell (p := ⟨w1.heap.size, 0, none⟩) hw1 _⟩
    rw [List.length_append, List.length_singleton]
    exact hA.set 0 _
  case done =>
    rintro D ys W hD rfl ⟨hA, hB⟩ hK
    rw [cnt_filt] at hA
    have n0 : W.cell? ⟨w1.heap.size, 0, none⟩ = some (.int .i64 (cntK N ts (cub N) : Nat)) := hA.cell rfl
    gi_wp2
    refine ⟨by simp, .inl ⟨_, _, rfl, run_takeDeferred hK, ?_⟩⟩
    exact ⟨_, results_tmp rfl _ _ _, rfl, grown_of (hB.trans (belowK_b (w := w) (Nat.le_refl _) W D _ _ (by omega) hK rfl rfl))⟩
  case stop =>
    rintro D c pre W _ _ h _
    exact h.elim

theorem cntr_any (n : Int) (a : Option Addr) (cap : Nat) (ss : List ByteArray) (w : World) (h : StrsAt w a ss) :
    Calls Try.prog 23 #[.int .i64 n, .slice a ss.length cap] w fun e w' => e = .returned (.int .i64 (cntI n (ss.map bl))) ∧ w.grownBy w' none := by
  cases ho : prOf (ss.map bl) with
  | none => rw [cntI_p ho]; exact cntr_no1 n a cap ss w h ho
  | some ts =>
    cases hi : inB n 1 6
    · rw [cntI_o hi]; exact cntr_no2 n a cap ss w h ho hi
    · obtain ⟨N, rfl, hN⟩ := nat_of hi
      rw [cntI_t ho hi]
      exact cntr_yes N hN a cap ss w h ho

end Go.Proofs.Ytdofeahbgodopaa
