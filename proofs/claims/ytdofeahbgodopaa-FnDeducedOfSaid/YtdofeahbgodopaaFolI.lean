/-
  impl.FollowsFrom: whether a formula is true wherever all premises are. No condition.
-/
import Derived.Test.YtdofeahbgodopaaCntI
import Derived.Test.YtdofeahbgodopaaALow
namespace Go.Proofs.Ytdofeahbgodopaa
open Go.RowKit Go.Shelf
attribute [local go_sem] Oper.semAt_some

theorem ff_prem (a : Option Addr) (cap : Nat) (ss : List ByteArray) (w : World) (h : StrsAt w a ss) :
    Calls Try.prog 39 #[.slice a ss.length cap] w fun e w' => ∃ v, e = .returned (.tuple #[v, .bool (premB (ss.map bl))]) ∧ (v = .nilFunc ∨ ∃ B, v = .func (.func 62) #[] #[.pointer (some ⟨B, 0, none⟩)]) ∧ w.grownBy w' none := by
  refine (prem_any a cap ss w h).mono ?_
  rintro e w' ⟨g, ⟨h1, h2⟩ | ⟨ts, B, h1, _, h2⟩⟩
  · rw [premB_f h1]; exact ⟨_, h2, .inl rfl, g⟩
  · rw [premB_t h1]; exact ⟨_, h2, .inr ⟨B, rfl⟩, g⟩

/-- What impl.chainTree leaves, whatever it is. -/
def ChainOr (b : Bool) (w : World) (e : Ending) (w' : World) : Prop := ∃ v, IsNode v ∧ e = .returned (.tuple #[v, .bool b]) ∧ w.grownBy w' none
theorem chain_or (n : Int) (s : ByteArray) (w : World) : Calls Try.prog 45 #[.int .i64 n, .string s] w (ChainOr (inB n 1 6 && isF (bl s)) w) := by
  cases hi : inB n 1 6
  · exact chain_no n s w (.inl hi)
  · cases ho : fOf (bl s) with
    | none => rw [isF_f ho]; exact chain_no n s w (.inr ho)
    | some t =>
      rw [isF_t ho]
      exact (chain_yes s w hi ho).mono fun e w' ⟨h1, h2⟩ => ⟨_, .inr ⟨_, _, rfl⟩, h1, h2⟩

theorem res_in {w w1 w2 : World} (g1 : (w.alloc (.cells #[.bool false] 4)).grownBy w1 none) (g2 : w1.grownBy w2 none) (v : Value) : w.grownBy (w2.setCell ⟨w.heap.size, 0, none⟩ v) none :=
  grown_of ((below_of (grownBy_trans (grownBy_trans (World.grownBy_alloc w _ none) g1) g2)).setCell (by simp) _)

set_option maxHeartbeats 1000000 in
theorem ff_no (n : Int) (a : Option Addr) (cap : Nat) (ss : List ByteArray) (s : ByteArray) (w : World) (h : StrsAt w a ss) (hn : (premB (ss.map bl) && (inB n 1 6 && isF (bl s))) = false) :
    Calls Try.prog 18 #[.int .i64 n, .slice a ss.length cap, .string s] w fun e w' => e = .returned (.bool false) ∧ w.grownBy w' none := by
  have cc := ff_prem a cap ss _ (h.grown (World.grownBy_alloc w (.cells #[.bool false] 4) none))
  have ct := fun w => chain_or n s w
  clear h
  generalize premB (ss.map bl) = p at *
  generalize (inB n 1 6 && isF (bl s)) = q at *
  cases p
  · clear hn
    go_enter Try.func18, Try.ntmps18
    go_wp2_with fail
    refine cc.mono ?_
    rintro e w1 ⟨v, rfl, hv, g1⟩
    clear cc
    have R1 := (BlkAt.new w #[.bool false] 4).grown g1
    rcases hv with rfl | ⟨B, rfl⟩
    all_goals
      go_wp2_with fail
      refine (ct _).mono ?_
      rintro e w2 ⟨v', hv', rfl, g2⟩
      clear ct
      have R2 := R1.grown g2
      have c0 := R2.cell (i := 0) rfl
      have z0 := R2.frozen 0
      rcases hv' with rfl | ⟨T', p', rfl⟩
      all_goals
        go_wp2_with fail
        refine bodyPost_ret (v := .bool false) ?_ rfl ⟨rfl, res_in g1 g2 _⟩
        have c1 := (R2.set 0 (.bool false)).cell (i := 0) rfl
        simp [results, Try.f18, go_sem, c1]
  · cases q
    · clear hn
      go_enter Try.func18, Try.ntmps18
      go_wp2_with fail
      refine cc.mono ?_
      rintro e w1 ⟨v, rfl, hv, g1⟩
      clear cc
      have R1 := (BlkAt.new w #[.bool false] 4).grown g1
      rcases hv with rfl | ⟨B, rfl⟩
      all_goals
        go_wp2_with fail
        refine (ct _).mono ?_
        rintro e w2 ⟨v', hv', rfl, g2⟩
        clear ct
        have R2 := R1.grown g2
        have c0 := R2.cell (i := 0) rfl
        have z0 := R2.frozen 0
        rcases hv' with rfl | ⟨T', p', rfl⟩
        all_goals
          go_wp2_with fail
          refine bodyPost_ret (v := .bool false) ?_ rfl ⟨rfl, res_in g1 g2 _⟩
          have c1 := (R2.set 0 (.bool false)).cell (i := 0) rfl
          simp [results, Try.f18, go_sem, c1]
    · cases hn

/-- What lies before the loop of impl.FollowsFrom. -/
def FfBlk (r q : Nat) (t : Tr) (f : Bool) (W : World) : Prop :=
  BlkAt W r #[.bool f] 4 ∧ BlkAt W q #[.iface (nodeT t) (nodeP t)] 65 ∧ BlkAt W (q + 1) #[.func (.func 64) #[] #[.pointer (some ⟨q, 0, none⟩)]] 57 ∧ q + 1 + 1 + 1 < W.heap.size
theorem FfBlk.grown {r q : Nat} {t : Tr} {f : Bool} {W W' : World} (h : FfBlk r q t f W) (hg : W.grownBy W' none) : FfBlk r q t f W' := ⟨h.1.grown hg, h.2.1.grown hg, h.2.2.1.grown hg, Nat.lt_of_lt_of_le h.2.2.2 hg.size⟩
theorem FfBlk.own {β : Type} (r q : Nat) (t : Tr) (f : Bool) : Own (fun (_ : β) W => FfBlk r q t f W) := Own.and (blk_own _ _ _) (Own.and (blk_own _ _ _) (Own.and (blk_own _ _ _) (fun _ _ _ _ hs hg _ => Nat.lt_of_lt_of_le hs hg.size)))
theorem FfBlk.put {r q : Nat} {t : Tr} {f : Bool} {W : World} (h : FfBlk r q t f W) (hr : r < q) (g : Bool) : FfBlk r q t g (W.setCell ⟨r, 0, none⟩ (.bool g)) :=
  ⟨h.1.set 0 _, h.2.1.other (by show r ≠ q; omega) _, h.2.2.1.other (by show r ≠ q + 1; omega) _, by rw [World.size_setCell]; exact h.2.2.2⟩

set_option maxRecDepth 100000 in
set_option maxHeartbeats 4000000 in
theorem ff_yes (N : Nat) (hN : 1 ≤ N ∧ N ≤ 6) (a : Option Addr) (cap : Nat) (ss : List ByteArray) (s : ByteArray) (w : World) (h : StrsAt w a ss) {ts : List Tr} {t : Tr} (ho : prOf (ss.map bl) = some ts) (ht : fOf (bl s) = some t) :
    Calls Try.prog 18 #[.int .i64 N, .slice a ss.length cap, .string s] w fun e w' => e = .returned (.bool (folK N ts t)) ∧ w.grownBy w' none := by
  have cc := prem_yes a cap ss _ (h.grown (World.grownBy_alloc w (.cells #[.bool false] 4) none)) ho
  have ct := fun w => chain_yes s w (inB_t (n := N) (by omega)) ht
  clear h ho ht
  refine (callsIn_wide (n := 5)).1 ?_
  refine callsIn_of_wp_marks Try.func18 rfl trivial ?_ rfl
  simp only [Try.ntmps18, List.size_toArray, List.length_cons, List.length_nil, Nat.reduceAdd, Nat.reduceSub, Array.replicate_succ, Array.replicate_zero, List.push_toArray, List.append_toArray, List.nil_append, List.cons_append]
  gi_wp2_with (refine ⟨trivial, ?_⟩; gi_at_call 39; refine (callsIn_wide.2 cc).mono ?_; clear cc; rintro e w1 ⟨B, rfl, hP, g1⟩)
  gi_wp2_with (refine ⟨trivial, ?_⟩; gi_at_call 45; refine (callsIn_wide.2 (ct _)).mono ?_; clear ct; rintro e w2 ⟨rfl, g2⟩)
  gi_wp2_with (refine ⟨trivial, ?_⟩; gi_at_call 46; refine (callsIn_wide.2 (truth_box t _)).mono ?_; rintro e w3 ⟨rfl, hbq, g3, s3⟩)
  gi_wp2_with (refine ⟨trivial, ?_⟩; gi_at_call 47; refine (withs_any _ _ trivial rfl _ _ _).mono ?_; rintro e w' ⟨rfl, rfl⟩)
  have c1 := ((BlkAt.new w3 #[.func (.func 64) #[] #[.pointer (some ⟨w2.heap.size, 0, none⟩)]] 57).alloc (.cells #[.int .i64 N] 3)).alloc (.cells #[.func (.func 62) #[] #[.pointer (some ⟨B, 0, none⟩)]] 57)
  have c2 := (BlkAt.new (w3.alloc (.cells #[.func (.func 64) #[] #[.pointer (some ⟨w2.heap.size, 0, none⟩)]] 57)) #[.int .i64 N] 3).alloc (.cells #[.func (.func 62) #[] #[.pointer (some ⟨B, 0, none⟩)]] 57)
  have c3 := BlkAt.new ((w3.alloc (.cells #[.func (.func 64) #[] #[.pointer (some ⟨w2.heap.size, 0, none⟩)]] 57)).alloc (.cells #[.int .i64 N] 3)) #[.func (.func 62) #[] #[.pointer (some ⟨B, 0, none⟩)]] 57
  have hg : w3.grownBy (((w3.alloc (.cells #[.func (.func 64) #[] #[.pointer (some ⟨w2.heap.size, 0, none⟩)]] 57)).alloc (.cells #[.int .i64 N] 3)).alloc (.cells #[.func (.func 62) #[] #[.pointer (some ⟨B, 0, none⟩)]] 57)) none := grownBy_trans (grownBy_trans (World.grownBy_alloc _ _ none) (World.grownBy_alloc _ _ none)) (World.grownBy_alloc _ _ none)
  rw [s3] at c1
  rw [World.size_alloc, s3] at c2
  rw [World.size_alloc, World.size_alloc, s3] at c3
  obtain ⟨W0, hW0⟩ : ∃ W0, (((w3.alloc (.cells #[.func (.func 64) #[] #[.pointer (some ⟨w2.heap.size, 0, none⟩)]] 57)).alloc (.cells #[.int .i64 N] 3)).alloc (.cells #[.func (.func 62) #[] #[.pointer (some ⟨B, 0, none⟩)]] 57)) = W0 := ⟨_, rfl⟩
  rw [hW0] at c1 c2 c3 hg ⊢
  have hsz : W0.heap.size = w2.heap.size + 1 + 1 + 1 + 1 := by rw [← hW0]; simp [s3]
  clear hW0
  have hw1 := g1.size
  have hw2 := g2.size
  simp only [World.size_alloc] at hw1
  have hM : FfBlk w.heap.size w2.heap.size t false W0 := ⟨(((BlkAt.new w #[.bool false] 4).grown g1).grown (grownBy_trans g2 (grownBy_trans g3 hg))), BlkAt.grown (show BlkAt w3 _ _ _ from hbq) hg, c1, by omega⟩
  have hB0 : Below w.heap.size w W0 := below_of (grownBy_trans (grownBy_trans (World.grownBy_alloc w _ none) g1) (grownBy_trans g2 (grownBy_trans g3 hg)))
  have hB1 : Below w1.heap.size w1 W0 := below_of (grownBy_trans g2 (grownBy_trans g3 hg))
  refine wpIn_rangeFunc_ownO rfl (show 1 ≤ 5 from by decide) (gf := 65) (lb := #[.pointer (some ⟨w2.heap.size + 1 + 1, 0, none⟩), .pointer (some ⟨w2.heap.size + 1 + 1 + 1, 0, none⟩)]) rfl trivial (enters_of Try.func65 (by kernel_rfl) rfl)
    (with_stops (w2.heap.size + 1 + 1) (w2.heap.size + 1 + 1 + 1) B w1.heap.size N hN ts w1 W0 hP rfl (c2.cell rfl) (c3.cell rfl) hB1 (by omega)) kpW_t (kpW_b (by omega) (by omega) (by omega)) (Below.refl _ _) (fun _ => rfl)
    (fun pre W => (FfBlk w.heap.size w2.heap.size t false W ∧ ∀ x ∈ pre, truK N t x = true) ∧ Below w.heap.size w W)
    (fun c pre W => (FfBlk w.heap.size w2.heap.size t false W ∧ (∃ x, x ∈ pre ∧ truK N t x = false) ∧ c = .ret) ∧ Below w.heap.size w W)
    (OwnFrom.and (Own.from (Own.and (FfBlk.own _ _ _ _) (own_pure _)) _) (ownFrom_below (Nat.le_refl _) (by omega)))
    (fun c => OwnFrom.and (Own.from (Own.and (FfBlk.own _ _ _ _) (own_pure _)) _) (ownFrom_below (Nat.le_refl _) (by omega)))
    ⟨⟨hM, by simp⟩, hB0⟩
    (fun x a' W => ∃ b, w2.heap.size + 1 + 1 + 1 < b ∧ BlkAt W b (set4 N x) 74 ∧ a' = { tmps := #[.int .i64 N, .slice a ss.length cap, .string s, undef, undef, undef, .pointer (some ⟨w.heap.size, 0, none⟩), .func (.func 62) #[] #[.pointer (some ⟨B, 0, none⟩)], .bool true, .iface (nodeT t) (nodeP t), .bool true, .pointer (some ⟨w2.heap.size + 1, 0, none⟩), .pointer (some ⟨b, 0, none⟩), .tuple #[.func (.func 62) #[] #[.pointer (some ⟨B, 0, none⟩)], .bool true], .slice a ss.length cap, .tuple #[.func (.func 62) #[] #[.pointer (some ⟨B, 0, none⟩)], .bool true], .func (.func 62) #[] #[.pointer (some ⟨B, 0, none⟩)], .bool true, .tuple #[.iface (nodeT t) (nodeP t), .bool true], .int .i64 N, .string s, .tuple #[.iface (nodeT t) (nodeP t), .bool true], .iface (nodeT t) (nodeP t), .bool true, .bool true, .bool false, .bool false, .bool true, .bool false, .bool false, .iface (nodeT t) (nodeP t), .func (.func 64) #[] #[.pointer (some ⟨w2.heap.size, 0, none⟩)], .int .i64 N, .func (.func 62) #[] #[.pointer (some ⟨B, 0, none⟩)], .func (.func 65) #[] #[.pointer (some ⟨w2.heap.size + 1 + 1, 0, none⟩), .pointer (some ⟨w2.heap.size + 1 + 1 + 1, 0, none⟩)], .agg #[.int .i64 N, .int .i64 (tA N x), .int .i64 (tB N x), .int .i64 (tC N x)], undef, undef, undef, undef], defers := [] })
    (fun x a' => Own.from (fun s A B row hs hg hr => by obtain ⟨b, h1, h2, h3⟩ := hs; exact ⟨b, h1, blk_own (β := Unit) b _ (fun _ => set4 N x) () A B row h2 hg hr, h3⟩) _) ?assign ?body ?done ?stop
  case assign =>
    rintro l pre x W K ⟨⟨hA, hp⟩, hB⟩ hK
    have lA := hA.2.2.2
    simp only [encK]
    gi_wp2
    exact hK _ _ (KeepsAt.alloc _ _ _) (KpW.grown (by omega) (by omega) (by omega) (World.grownBy_alloc _ _ none)) ⟨⟨hA.grown (World.grownBy_alloc _ _ none), hp⟩, hB.alloc hB.size _⟩ ⟨W.heap.size, lA, BlkAt.new W _ _, rfl⟩
  case body =>
    rintro l pre x a' W hl ⟨r, hr⟩ ⟨⟨hA, hp⟩, hB⟩ ⟨b, hb, hbx, rfl⟩ hlt
    have q0 : W.cell? ⟨w2.heap.size + 1, 0, none⟩ = some (.func (.func 64) #[] #[.pointer (some ⟨w2.heap.size, 0, none⟩)]) := hA.2.2.1.cell rfl
    have t0 : W.cell? ⟨w2.heap.size, 0, none⟩ = some (.iface (nodeT t) (nodeP t)) := hA.2.1.cell rfl
    have x0 : W.cell? ⟨b, 0, none⟩ = some (.int .i64 N) := hbx.cell rfl
    have x1 : W.cell? ⟨b, 1, none⟩ = some (.int .i64 (tA N x)) := hbx.cell rfl
    have x2 : W.cell? ⟨b, 2, none⟩ = some (.int .i64 (tB N x)) := hbx.cell rfl
    have x3 : W.cell? ⟨b, 3, none⟩ = some (.int .i64 (tC N x)) := hbx.cell rfl
    have lb := hbx.lt
    have cq := tru1_any N hN x t w2.heap.size W t0
    have hd : 1 ≤ 5 - 1 - 1 := by decide
    clear t0
    cases hv : truK N t x
    · rw [hv] at cq
      gi_wp2_with (refine ⟨trivial, ?_⟩; gi_at_call 64; refine (CallsIn.inRound l (callsIn_wide.2 cq)).mono ?_; rintro e w' ⟨rfl, gx⟩; have hA' := hA.grown gx; have r0 : w'.cell? ⟨w.heap.size, 0, none⟩ = some (.bool false) := hA'.1.cell rfl; have z0 := hA'.1.frozen 0)
      exact ⟨(KeepsAt.grown gx).trans (KeepsAt.setCell _ (by omega) _), ⟨hA'.put (by omega) false, ⟨x, by simp, hv⟩, rfl⟩, hB.trans (((below_of gx).mono hB.size).setCell (by simp) _)⟩
    · rw [hv] at cq
      gi_wp2_with (refine ⟨trivial, ?_⟩; gi_at_call 64; refine (CallsIn.inRound l (callsIn_wide.2 cq)).mono ?_; rintro e w' ⟨rfl, gx⟩)
      exact ⟨KeepsAt.grown gx, KpW.grown (by omega) (by omega) (by omega) gx, ⟨hA.grown gx, fun y hy => (List.mem_append.1 hy).elim (hp y) (fun e => by simp at e; rw [e]; exact hv)⟩, hB.trans ((below_of gx).mono hB.size)⟩
  case done =>
    rintro D ys W hD rfl ⟨⟨hA, hp⟩, hB⟩ hK
    have hs : folK N ts t = true := folK_mk fun k hk ha => hp k (List.mem_filter.2 ⟨List.mem_range.2 hk, ha⟩)
    have r0 : W.cell? ⟨w.heap.size, 0, none⟩ = some (.bool false) := hA.1.cell rfl
    have z0 := hA.1.frozen 0
    gi_wp2
    have hK' := (KeepsOthers.setCell W ⟨w.heap.size, 0, none⟩ (.bool true)).same D _ hK rfl
    refine ⟨by simp, .inl ⟨_, _, rfl, run_takeDeferred hK', ?_⟩⟩
    have c0 := cell_kept ((hA.put (by omega) true).1.cell (i := 0) rfl) (grownBy_putObj' _ D (.deferred none)) (fun r e => by cases e; exact ⟨_, hK', rfl⟩)
    refine ⟨.bool true, ?_, by first | rfl | rw [hs], grown_of ((hB.setCell (p := ⟨w.heap.size, 0, none⟩) (by simp) _).trans (belowK_b (w := w) (Nat.le_refl _) _ D _ _ (by omega) hK' rfl rfl))⟩
    simp [results, Try.f18, go_sem, c0]
  case stop =>
    rintro D c pre W hD ⟨k, hk, ha, rfl⟩ ⟨⟨hA, ⟨x, hx, hv⟩, rfl⟩, hB⟩ hK
    rw [List.mem_filter, List.mem_range] at hx
    have hs : folK N ts t = false := folK_no (by omega) hx.2 hv
    gi_wp2
    refine ⟨by simp, .inl ⟨_, _, rfl, run_takeDeferred hK, ?_⟩⟩
    have c0 := cell_kept (hA.1.cell (i := 0) rfl) (grownBy_putObj' _ D (.deferred none)) (fun r e => by cases e; exact ⟨_, hK, rfl⟩)
    refine ⟨.bool false, ?_, by first | rfl | rw [hs], grown_of (hB.trans (belowK_b (w := w) (Nat.le_refl _) _ D _ _ (by omega) hK rfl rfl))⟩
    simp [results, Try.f18, go_sem, c0]

theorem ff_any (n : Int) (a : Option Addr) (cap : Nat) (ss : List ByteArray) (s : ByteArray) (w : World) (h : StrsAt w a ss) :
    Calls Try.prog 18 #[.int .i64 n, .slice a ss.length cap, .string s] w fun e w' => e = .returned (.bool (folI n (ss.map bl) (bl s))) ∧ w.grownBy w' none := by
  cases ho : prOf (ss.map bl) with
  | none => rw [folI_p ho]; exact ff_no n a cap ss s w h (by rw [premB_f ho]; rfl)
  | some ts =>
    cases hi : inB n 1 6
    · rw [folI_o hi]; exact ff_no n a cap ss s w h (by rw [hi]; simp)
    · cases hf : fOf (bl s) with
      | none => rw [folI_n hf]; exact ff_no n a cap ss s w h (by rw [isF_f hf]; simp)
      | some t =>
        obtain ⟨N, rfl, hN⟩ := nat_of hi
        rw [folI_t ho hf hi]
        exact ff_yes N hN a cap ss s w h ho hf

end Go.Proofs.Ytdofeahbgodopaa
