/-
  impl.settingsWith and the function that it hands back: it yields just those settings to which the premises' question says yes: for every loop body that keeps what lay beyond the call. The chain has 1 to 6 steps.
-/
import Derived.Test.YtdofeahbgodopaaQues3
import Derived.Test.YtdofeahbgodopaaSeqO
namespace Go.Proofs.Ytdofeahbgodopaa
open Go.RowKit Go.Shelf
attribute [local go_sem] Oper.semAt_some

theorem roundAny {F : Fence} (hd : F.depth = none) {m m' : Nat} {P : Program} {l : Nat} {f : FuncId} {tmps : Array Value} {assign body : Code} {w : World} {R : Ending → World → Prop}
    (h : RoundIn F m P l f tmps assign body w R) : RoundIn F m' P l f tmps assign body w R :=
  ⟨h.1, fun c cs _ => h.2 c cs (fun d e => by rw [hd] at e; cases e)⟩

theorem withs_any (F : Fence) (n : Nat) (h : F.fn 47) (hro : F.round = none) (N : Int) (B : Nat) (w : World) :
    CallsIn F n Try.prog 47 #[.int .i64 N, .func (.func 62) #[] #[.pointer (some ⟨B, 0, none⟩)]] w fun e w' =>
      e = .returned (.func (.func 65) #[] #[.pointer (some ⟨w.heap.size, 0, none⟩), .pointer (some ⟨w.heap.size + 1, 0, none⟩)]) ∧
      w' = (w.alloc (.cells #[.int .i64 N] 3)).alloc (.cells #[.func (.func 62) #[] #[.pointer (some ⟨B, 0, none⟩)]] 57) := by
  refine callsIn_of_wp Try.func47 rfl h ?_ hro
  simp only [Try.ntmps47, List.size_toArray, List.length_cons, List.length_nil, Nat.reduceAdd, Nat.reduceSub, Array.replicate_succ, Array.replicate_zero, List.push_toArray, List.append_toArray, List.nil_append, List.cons_append]
  gi_wp2
  go_ret
  exact ⟨rfl, rfl⟩

/-- What a round keeps: what lay below n0, and the two variables that the function has captured. -/
def KpW (n0 Bs Bq : Nat) (X Y : World) : Prop := Below n0 X Y ∧ KpC Bs X Y ∧ KpC Bq X Y
theorem kpW_t {n0 Bs Bq : Nat} {X Y Z : World} (h : KpW n0 Bs Bq X Y) (k : KpW n0 Bs Bq Y Z) : KpW n0 Bs Bq X Z := ⟨h.1.trans k.1, kpC_t h.2.1 k.2.1, kpC_t h.2.2 k.2.2⟩
theorem kpW_b {n0 Bs Bq : Nat} {w : World} (hn : n0 ≤ w.heap.size) (h1 : Bs < w.heap.size) (h2 : Bq < w.heap.size) (W : World) (l : Nat) (o o' : Obj) (hl : w.heap.size ≤ l) (ho : W.heap[l]? = some o) (_ : o.isCells = false) : KpW n0 Bs Bq W (W.putObj l o') :=
  ⟨(Below.refl n0 W).grown (grownBy_putObj' W l o') (by have := (Array.getElem?_eq_some_iff.1 ho).1; omega) (fun k e => by cases e; omega),
    World.cell?_of_block (World.putObj_heap_other (by show Bs ≠ l; omega)), World.cell?_of_block (World.putObj_heap_other (by show Bq ≠ l; omega))⟩
theorem KpW.grown {n0 Bs Bq : Nat} {X Y : World} (hn : n0 ≤ X.heap.size) (h1 : Bs < X.heap.size) (h2 : Bq < X.heap.size) (h : X.grownBy Y none) : KpW n0 Bs Bq X Y :=
  ⟨(Below.refl n0 X).grown h hn (by simp), KpC.grown h1 h, KpC.grown h2 h⟩

/-- Those that have come and were let by. -/
theorem filt_yes {q : Nat → Bool} {pre : List Nat} {x : Nat} (h : q x = true) : (pre ++ [x]).filter q = pre.filter q ++ [x] := by simp [h]
theorem filt_no {q : Nat → Bool} {pre : List Nat} {x : Nat} (h : q x = false) : (pre ++ [x]).filter q = pre.filter q := by simp [h]
theorem filt_lt {q : Nat → Bool} {pre : List Nat} {N : Nat} (h : pre.length < N) : (pre.filter q).length < N := Nat.lt_of_le_of_lt (List.length_filter_le _ _) h

set_option maxRecDepth 100000 in
set_option maxHeartbeats 4000000 in
theorem with_in (l Bs Bq B n0 N : Nat) (hN : 1 ≤ N ∧ N ≤ 6) (ts : List Tr) (w1 : World) (hP : PremAt w1 B ts) (hn0 : w1.heap.size = n0) (J Jx : List Nat → World → Prop) (W0 : World)
    (hJ : OwnFrom W0.heap.size J) (hJx : OwnFrom W0.heap.size Jx)
    (hY : ∀ pre x W, J pre W → pre.length < cub N → YieldAt Fence.wide 3 Try.prog l (encK N x) W fun e W' =>
      ((e = .returned (.bool true) ∧ J (pre ++ [x]) W' ∧ KpW n0 Bs Bq W W') ∨ (e = .returned (.bool false) ∧ Jx (pre ++ [x]) W')) ∧ KeepsAt W0.heap.size W W')
    (hBs : W0.cell? ⟨Bs, 0, none⟩ = some (.int .i64 N)) (hBq : W0.cell? ⟨Bq, 0, none⟩ = some (.func (.func 62) #[] #[.pointer (some ⟨B, 0, none⟩)]))
    (hb : Below n0 w1 W0) (hz : n0 ≤ W0.heap.size) (h0 : J [] W0) :
    CallsIn Fence.wide 4 Try.prog 65 #[.func (.yield l) #[] #[], .pointer (some ⟨Bs, 0, none⟩), .pointer (some ⟨Bq, 0, none⟩)] W0 fun e W' => (∃ v, e = .returned v) ∧
      ((∃ ys, ys = (List.range (cub N)).filter (allK N ts) ∧ J ys W') ∨ (∃ pre, (∃ k, k < cub N ∧ allK N ts k = true ∧ pre = (List.range (k + 1)).filter (allK N ts)) ∧ Jx pre W')) := by
  refine callsIn_of_wp_marks Try.func65 rfl trivial ?_ rfl
  simp only [Try.ntmps65, List.size_toArray, List.length_cons, List.length_nil, Nat.reduceAdd, Nat.reduceSub, Array.replicate_succ, Array.replicate_zero, List.push_toArray, List.append_toArray, List.nil_append, List.cons_append]
  have ls := World.block_lt_of_cell? W0 _ hBs
  have lq := World.block_lt_of_cell? W0 _ hBq
  have hs1 := cell_grown hBs (World.grownBy_alloc W0 (.cells #[.func (.yield l) #[] #[]] 56) none)
  gi_wp2_with (refine ⟨trivial, ?_⟩; gi_at_call 66; refine (settings_any _ _ trivial rfl _ _).mono ?_; rintro e w' ⟨rfl, rfl⟩)
  have hy0 := (BlkAt.new W0 #[.func (.yield l) #[] #[]] 56).alloc (.cells #[.int .i64 N] 3)
  have hc0 := BlkAt.new (W0.alloc (.cells #[.func (.yield l) #[] #[]] 56)) #[.int .i64 N] 3
  have hg : W0.grownBy _ none := grownBy_trans (World.grownBy_alloc W0 (.cells #[.func (.yield l) #[] #[]] 56) none) (World.grownBy_alloc _ (.cells #[.int .i64 N] 3) none)
  obtain ⟨W2, hW2⟩ : ∃ W2, ((W0.alloc (.cells #[.func (.yield l) #[] #[]] 56)).alloc (.cells #[.int .i64 N] 3)) = W2 := ⟨_, rfl⟩
  rw [World.size_alloc] at hc0
  rw [hW2] at hy0 hc0 hg ⊢
  have hsz : W2.heap.size = W0.heap.size + 1 + 1 := by rw [← hW2]; simp
  clear hW2 hs1
  refine wpIn_rangeFunc_ownH rfl (show 1 ≤ 4 from by decide) (gf := 71) (lb := #[.pointer (some ⟨W0.heap.size + 1, 0, none⟩)]) rfl trivial (enters_of Try.func71 (by kernel_rfl) rfl)
    (settings_stops Fence.wide (4 - 1) trivial rfl (by decide) (W0.heap.size + 1) N hN W2 (by omega) (hc0.cell rfl)) kpC_t (kpC_b (by omega)) (Below.refl _ _) (fun _ => rfl)
    (fun pre W => J (pre.filter (allK N ts)) W ∧ Below n0 w1 W ∧ W.cell? ⟨Bq, 0, none⟩ = some (.func (.func 62) #[] #[.pointer (some ⟨B, 0, none⟩)]) ∧ BlkAt W W0.heap.size #[.func (.yield l) #[] #[]] 56 ∧ BlkAt W (W0.heap.size + 1) #[.int .i64 N] 3)
    (fun c pre W => c = .ret ∧ (∃ p x, pre = p ++ [x] ∧ allK N ts x = true) ∧ Jx (pre.filter (allK N ts)) W)
    (fun s X Y row hs hg' hr => ⟨hJ _ X Y row hs.1 hg' (fun r e => ⟨by have := (hr r e).1; omega, (hr r e).2⟩), hs.2.1.grown hg' (by have := hs.2.1.size; have := hs.2.2.2.2.lt; omega) (fun r e => by have := (hr r e).1; omega), cell_kept hs.2.2.1 hg' (fun r e => (hr r e).2), blk_own (β := Unit) _ _ (fun _ => _) () X Y row hs.2.2.2.1 hg' (fun r e => (hr r e).2), blk_own (β := Unit) _ _ (fun _ => _) () X Y row hs.2.2.2.2 hg' (fun r e => (hr r e).2)⟩)
    (fun c s X Y row hs hg' hr => ⟨hs.1, hs.2.1, hJx _ X Y row hs.2.2 hg' (fun r e => ⟨by have := (hr r e).1; omega, (hr r e).2⟩)⟩)
    ⟨hJ [] W0 W2 none h0 hg (by simp), hb.grown hg hz (by simp), cell_grown hBq hg, hy0, hc0⟩
    (fun x a' W => ∃ b, W0.heap.size + 1 < b ∧ BlkAt W b (set4 N x) 74 ∧ a' = { tmps := #[.func (.yield l) #[] #[], .pointer (some ⟨Bs, 0, none⟩), .pointer (some ⟨Bq, 0, none⟩), .pointer (some ⟨W0.heap.size, 0, none⟩), .pointer (some ⟨b, 0, none⟩), .int .i64 N, .func (.func 71) #[] #[.pointer (some ⟨W0.heap.size + 1, 0, none⟩)], .agg #[.int .i64 N, .int .i64 (tA N x), .int .i64 (tB N x), .int .i64 (tC N x)], undef, undef, undef, undef, undef, undef, undef, undef, undef], defers := [] })
    (fun x a' => Own.from (fun s X Y row hs hg' hr => by obtain ⟨b, h1, h2, h3⟩ := hs; exact ⟨b, h1, blk_own (β := Unit) b _ (fun _ => set4 N x) () X Y row h2 hg' hr, h3⟩) _) ?assign ?body ?done ?stop
  case assign =>
    rintro l' pre x W K ⟨hj, hB, hq, hy, hc⟩ hK
    simp only [encK]
    gi_wp2
    exact hK _ _ ((KeepsOthers.alloc _ _).from _) (KpC.grown hc.lt (World.grownBy_alloc _ _ none)) ⟨hJ _ W _ none hj (World.grownBy_alloc _ _ none) (by simp), hB.alloc (by have := hc.lt; omega) _, cell_grown hq (World.grownBy_alloc _ _ none), hy.alloc _, hc.alloc _⟩ ⟨W.heap.size, hc.lt, BlkAt.new W _ _, rfl⟩
  case body =>
    rintro l' pre x a' W hl' ⟨r, hr⟩ ⟨hj, hB, hq, hy, hc⟩ ⟨b, hbb, hbx, rfl⟩ hlt
    have y0 : W.cell? ⟨W0.heap.size, 0, none⟩ = some (.func (.yield l) #[] #[]) := hy.cell rfl
    have x0 : W.cell? ⟨b, 0, none⟩ = some (.int .i64 N) := hbx.cell rfl
    have x1 : W.cell? ⟨b, 1, none⟩ = some (.int .i64 (tA N x)) := hbx.cell rfl
    have x2 : W.cell? ⟨b, 2, none⟩ = some (.int .i64 (tB N x)) := hbx.cell rfl
    have x3 : W.cell? ⟨b, 3, none⟩ = some (.int .i64 (tC N x)) := hbx.cell rfl
    have hPW : PremAt W B ts := hP.below (by rw [hn0]; exact hB)
    have hlc := hc.lt
    have hd : 1 ≤ 4 - 1 - 1 := by decide
    have cq := prem1_any N hN x ts B W hPW
    clear hPW
    cases hv : allK N ts x
    · rw [hv] at cq
      gi_wp2_with (refine ⟨trivial, ?_⟩; gi_at_call 62; refine (CallsIn.inRound l' (callsIn_wide.2 cq)).mono ?_; rintro e w' ⟨rfl, gx⟩)
      refine ⟨fun _ h => (by cases h), ?_⟩
      gi_wp2
      exact ⟨(KeepsOthers.of_grownBy gx (by simp)).from _, KpC.grown hc.lt gx, by rw [filt_no hv]; exact hJ _ W _ none hj gx (by simp), hB.grown gx (by have := hB.size; omega) (by simp), cell_grown hq gx, hy.grown gx, hc.grown gx⟩
    · rw [hv] at cq
      gi_wp2_with (refine ⟨trivial, ?_⟩; gi_at_call 62; refine (CallsIn.inRound l' (callsIn_wide.2 cq)).mono ?_; rintro e w' ⟨rfl, gx⟩; have y0' := cell_grown y0 gx; have x0' := cell_grown x0 gx; have x1' := cell_grown x1 gx; have x2' := cell_grown x2 gx; have x3' := cell_grown x3 gx; obtain ⟨fn, tmps, asg, bod, hyl, hR⟩ := hY (pre.filter (allK N ts)) x w' (hJ _ W _ none hj gx (by simp)) (filt_lt hlt); unfold encK at hyl)
      refine (RoundIn.mono (roundAny rfl hR) ?_)
      rintro e w4 ⟨hor, hka⟩
      have hg4 : KeepsFrom W2.heap.size W w4 := ((KeepsAt.grown gx).trans (hka.mono (by omega))).keeps
      rcases hor with ⟨rfl, hj4, hkp⟩ | ⟨rfl, hj4⟩
      · gi_wp2
        exact ⟨hg4, kpC_t (KpC.grown hc.lt gx) (World.cell?_of_block (hka.block (by show _ ≤ W0.heap.size + 1; omega) (hc.grown gx).lt)), by rw [filt_yes hv]; exact hj4, (hB.grown gx (by have := hB.size; omega) (by simp)).trans hkp.1, hkp.2.2.trans (cell_grown hq gx), hka.same _ _ (Nat.le_refl _) (hy.grown gx), hka.same _ _ (by omega) (hc.grown gx)⟩
      · gi_wp2
        exact ⟨hg4, rfl, ⟨pre, x, rfl, hv⟩, by rw [filt_yes hv]; exact hj4⟩
  case done =>
    rintro D ys W hD rfl ⟨hj, _⟩ hK
    gi_wp2
    refine ⟨by simp, .inl ⟨_, _, rfl, run_takeDeferred hK, ?_⟩⟩
    exact ⟨_, results_none rfl _ _ _, ⟨_, rfl⟩, .inl ⟨_, rfl, hJ.putObj _ hj (by omega) hK rfl⟩⟩
  case stop =>
    rintro D c pre W hD ⟨k, hk, rfl⟩ ⟨rfl, ⟨p, x, hpx, hqx⟩, hj⟩ hK
    have hpx' := hpx
    rw [List.range_succ] at hpx'
    obtain ⟨rfl, hx'⟩ := List.append_inj' hpx' rfl
    obtain rfl : k = x := by simpa using hx'
    gi_wp2
    refine ⟨by simp, .inl ⟨_, _, rfl, run_takeDeferred hK, ?_⟩⟩
    exact ⟨_, results_none rfl _ _ _, ⟨_, rfl⟩, .inr ⟨(List.range (k + 1)).filter (allK N ts), ⟨k, hk, hqx, by first | rfl | rw [List.range_succ, List.filter_append]⟩, hJx.putObj (s := (List.range (k + 1)).filter (allK N ts)) _ hj (by omega) hK rfl⟩⟩

theorem with_stops (Bs Bq B n0 N : Nat) (hN : 1 ≤ N ∧ N ≤ 6) (ts : List Tr) (w1 w : World) (hP : PremAt w1 B ts) (hn0 : w1.heap.size = n0)
    (hBs : w.cell? ⟨Bs, 0, none⟩ = some (.int .i64 N)) (hBq : w.cell? ⟨Bq, 0, none⟩ = some (.func (.func 62) #[] #[.pointer (some ⟨B, 0, none⟩)]))
    (hb : Below n0 w1 w) (hz : n0 ≤ w.heap.size) :
    SeqStopsO Fence.wide 4 Try.prog 65 #[.pointer (some ⟨Bs, 0, none⟩), .pointer (some ⟨Bq, 0, none⟩)] (encK N) (KpW n0 Bs Bq) (fun ys => ys = (List.range (cub N)).filter (allK N ts)) (fun pre => ∃ k, k < cub N ∧ allK N ts k = true ∧ pre = (List.range (k + 1)).filter (allK N ts)) (cub N) w := fun l J Jx W hW hJ hJx hY h0 =>
  with_in l Bs Bq B n0 N hN ts w1 hP hn0 J Jx W hJ hJx hY ((hW.cell (p := ⟨Bs, 0, none⟩) (World.block_lt_of_cell? w _ hBs)).trans hBs) ((hW.cell (p := ⟨Bq, 0, none⟩) (World.block_lt_of_cell? w _ hBq)).trans hBq)
    (hb.trans (hW.mono hz)) (Nat.le_trans hz hW.size) h0

end Go.Proofs.Ytdofeahbgodopaa
