/-
  impl.followingIn: the set of what tells of each two values of a set that the second one follows of the first one: two loops over what impl.valuesIn yields, one within the other. The table of math/bits lies as it is laid.
-/
import Derived.Test.YtakjlfcgciglgaaDoorZIter
namespace Go.Proofs.YtakjlfcgciglgaaDoor
open Go.RowKit Go.Shelf
attribute [local go_sem] Oper.semAt_some

theorem cell_grownZ {w1 w2 : World} {a : Addr} {x : Value} (h : w1.cell? a = some x) (hg : w1.grownBy w2 none) : w2.cell? a = some x := by
  have hb := World.block_lt_of_cell? w1 a h
  exact (World.cell?_of_block (w := w1) (hg.block _ hb (by simp))).trans h

theorem grown_ofZ {w w' : World} (h : Below w.heap.size w w') : w.grownBy w' none := ⟨h.os, h.tape, h.output, h.size, fun k hk _ => h.block k hk⟩

theorem folW_nat {N a b : Nat} (hN : 1 ≤ N ∧ N ≤ 6) (ha : a ≤ N) (hb : b ≤ N) : folW (N : Int) (a : Int) (b : Int) = ((folN N a b : Nat) : Int) := by
  have ht : twoB (N : Int) (a : Int) (b : Int) = true := twoB_t (by omega)
  unfold folN
  by_cases h : N - a + b ≤ N
  · rw [if_pos h, folW_t ht (by omega)]; omega
  · rw [if_neg h, folW_e ht (by omega)]

theorem pow62 {N k : Nat} (hN : N ≤ 6) (hk : k ≤ N) : 2 ^ k < 2 ^ 62 := Nat.pow_lt_pow_right (by omega) (by omega)

set_option maxRecDepth 100000 in
set_option maxHeartbeats 4000000 in
theorem fols_any (N S : Nat) (hN : 1 ≤ N ∧ N ≤ 6) (hS : S < 2 ^ (N + 1)) (w : World) (hT : TzAt w) :
    Calls Tryd.prog 47 #[.int .i64 N, .int .i64 S] w fun e w' => e = .returned (.int .i64 (folsN N S)) ∧ w.grownBy w' none := by
  refine (callsIn_wide (n := 6)).1 ?_
  refine callsIn_of_wp_marks Tryd.func47 rfl trivial ?_ rfl
  simp only [Tryd.ntmps47, List.size_toArray, List.length_cons, List.length_nil, Nat.reduceAdd, Nat.reduceSub, Array.replicate_succ, Array.replicate_zero, List.push_toArray, List.append_toArray, List.nil_append, List.cons_append]
  gi_wp2_with (refine ⟨trivial, ?_⟩; gi_at_call 52; refine (values_any Fence.wide _ trivial rfl _ _).mono ?_; rintro e w' ⟨rfl, rfl⟩)
  have bN := (((Boxed.new w 3 (.int .i64 N)).alloc (.cells #[.int .i64 S] 3)).alloc (.cells #[.int .i64 0] 3)).alloc (.cells #[.int .i64 S] 3)
  have bS := ((Boxed.new (w.alloc (.cells #[.int .i64 N] 3)) 3 (.int .i64 S)).alloc (.cells #[.int .i64 0] 3)).alloc (.cells #[.int .i64 S] 3)
  have bF := (Boxed.new ((w.alloc (.cells #[.int .i64 N] 3)).alloc (.cells #[.int .i64 S] 3)) 3 (.int .i64 0)).alloc (.cells #[.int .i64 S] 3)
  have bI := Boxed.new (((w.alloc (.cells #[.int .i64 N] 3)).alloc (.cells #[.int .i64 S] 3)).alloc (.cells #[.int .i64 0] 3)) 3 (.int .i64 S)
  simp only [World.size_alloc] at bS bF bI
  have hg0 : w.grownBy ((((w.alloc (.cells #[.int .i64 N] 3)).alloc (.cells #[.int .i64 S] 3)).alloc (.cells #[.int .i64 0] 3)).alloc (.cells #[.int .i64 S] 3)) none :=
    grownBy_trans (World.grownBy_alloc w _ none) (grownBy_trans (World.grownBy_alloc _ _ none) (grownBy_trans (World.grownBy_alloc _ _ none) (World.grownBy_alloc _ _ none)))
  have hsz : ((((w.alloc (.cells #[.int .i64 N] 3)).alloc (.cells #[.int .i64 S] 3)).alloc (.cells #[.int .i64 0] 3)).alloc (.cells #[.int .i64 S] 3)).heap.size = w.heap.size + 4 := by simp
  obtain ⟨W0, hW0⟩ : ∃ W0, ((((w.alloc (.cells #[.int .i64 N] 3)).alloc (.cells #[.int .i64 S] 3)).alloc (.cells #[.int .i64 0] 3)).alloc (.cells #[.int .i64 S] 3)) = W0 := ⟨_, rfl⟩
  rw [hW0] at bN bS bF bI hg0 hsz ⊢
  clear hW0
  have hB0 : Below w.heap.size w W0 := below_of hg0
  have hT0 := hT.grown hg0
  have hgl := hT.lt
  refine wpIn_rangeFunc_ownH rfl (show 1 ≤ 6 from by decide) (gf := 65) (lb := #[.pointer (some ⟨w.heap.size + 1 + 1 + 1, 0, none⟩)]) rfl trivial (enters_of Tryd.func65 (by kernel_rfl) rfl)
    (vals_stops (6 - 1) N (by decide) (w.heap.size + 1 + 1 + 1) S w.heap.size hN hS hgl W0 (by omega) bI.cell hT0) belowK_t (belowK_b (by omega)) (Below.refl _ _) (fun _ => rfl)
    (fun pre W => ((Boxed W (w.heap.size + 1 + 1) 3 (.int .i64 (outF N (valsA N S) pre)) ∧ Boxed W w.heap.size 3 (.int .i64 N)) ∧ Boxed W (w.heap.size + 1) 3 (.int .i64 S)) ∧ Below w.heap.size w W)
    (fun _ _ _ => False)
    (OwnFrom.and (OwnFrom.and (OwnFrom.and (Own.from (boxed_own _ _ _) _) (Own.from (boxed_own _ _ _) _)) (Own.from (boxed_own _ _ _) _)) (ownFrom_below (Nat.le_refl _) (by omega)))
    (fun _ _ _ _ _ hs _ _ => hs)
    ⟨⟨⟨bF, bN⟩, bS⟩, hB0⟩
    (fun x a' W => ∃ Bx, w.heap.size + 1 + 1 < Bx ∧ Boxed W Bx 3 (.int .i64 (x.1 : Int)) ∧ a' = { tmps := #[.int .i64 N, .int .i64 S, .pointer (some ⟨w.heap.size, 0, none⟩), .pointer (some ⟨w.heap.size + 1, 0, none⟩), .int .i64 0, .pointer (some ⟨w.heap.size + 1 + 1, 0, none⟩), .pointer (some ⟨Bx, 0, none⟩), undef, .int .i64 S, .func (.func 65) #[] #[.pointer (some ⟨w.heap.size + 1 + 1 + 1, 0, none⟩)], .int .i64 (x.1 : Int), undef, undef, undef, undef, undef, undef, undef, undef, undef, undef, undef], defers := [] })
    (fun x a' _ X Y row hs hg hr => by obtain ⟨Bx, h1, h2, h3⟩ := hs; exact ⟨Bx, h1, boxed_own Bx 3 (fun (_ : Unit) => Value.int .i64 (x.1 : Int)) () X Y row h2 hg (fun r e => (hr r e).2), h3⟩)
    ?assign ?body ?done ?stop
  case assign =>
    rintro l pre x W K ⟨⟨⟨bF1, bN1⟩, bS1⟩, hB1⟩ hK
    have hsW := hB1.size
    simp only [encV]
    gi_wp2
    exact hK _ _ ((KeepsOthers.alloc _ _).from _) ((Below.refl _ W).alloc hB1.size _) ⟨⟨⟨bF1.alloc _, bN1.alloc _⟩, bS1.alloc _⟩, hB1.alloc hB1.size _⟩ ⟨W.heap.size, bF1.lt, Boxed.new W 3 _, rfl⟩
  case body =>
    rintro l pre x a' W hl ⟨r, hr⟩ ⟨⟨⟨bF1, bN1⟩, bS1⟩, hB1⟩ ⟨Bx, hBx, bX, rfl⟩ hlt
    have cS := bS1.cell
    have h1' : 1 ≤ 6 - 1 - 1 := by decide
    gi_wp2_with (refine ⟨trivial, ?_⟩; gi_at_call 52; refine (CallsIn.inRound l (values_any Fence.wide _ trivial rfl _ _)).mono ?_; rintro e w' ⟨rfl, rfl⟩)
    have hsW := hB1.size
    have bI2 := Boxed.new W 3 (.int .i64 S)
    have hr' : (W.alloc (.cells #[.int .i64 S] 3)).heap[l]? = some (.loop r) := (Below.heap_alloc W _ l (Array.getElem?_eq_some_iff.1 hr).1).trans hr
    have hTW : TzAt (W.alloc (.cells #[.int .i64 S] 3)) := hT.below (hB1.alloc hsW _) hgl
    refine wpIn_rangeFunc_ownN (l₀ := l) (r₀ := r) rfl hr' h1' (gf := 65) (lb := #[.pointer (some ⟨W.heap.size, 0, none⟩)]) rfl trivial (enters_of Tryd.func65 (by kernel_rfl) rfl)
      ((vals_stops (6 - 1 - 1 - 1) N (by decide) W.heap.size S w.heap.size hN hS hgl _ (by simp) bI2.cell hTW).inRound l) belowK_t (belowK_b (by simp; omega)) (Below.refl _ _) (fun _ => rfl)
      (fun pre' W' => (((Boxed W' (w.heap.size + 1 + 1) 3 (.int .i64 (inF N x.1 (outF N (valsA N S) pre) pre')) ∧ Boxed W' Bx 3 (.int .i64 (x.1 : Int))) ∧ Boxed W' w.heap.size 3 (.int .i64 N)) ∧ Boxed W' (w.heap.size + 1) 3 (.int .i64 S)) ∧ (Below w.heap.size W W' ∧ KeepsFrom W0.heap.size W W'))
      (fun _ _ _ => False)
      (OwnFrom.and (OwnFrom.and (OwnFrom.and (OwnFrom.and (Own.from (boxed_own _ _ _) _) (Own.from (boxed_own _ _ _) _)) (Own.from (boxed_own _ _ _) _)) (Own.from (boxed_own _ _ _) _)) (OwnFrom.and (ownFrom_below hsW (by simp; omega)) (ownFrom_keepsFrom (by simp))))
      (fun _ _ _ _ _ hs _ _ => hs)
      ⟨⟨⟨⟨bF1.alloc _, bX.alloc _⟩, bN1.alloc _⟩, bS1.alloc _⟩, (Below.refl _ W).alloc hsW _, (KeepsOthers.alloc _ _).from _⟩
      (fun y a'' _ => a'' = { tmps := #[.int .i64 N, .int .i64 S, .pointer (some ⟨w.heap.size, 0, none⟩), .pointer (some ⟨w.heap.size + 1, 0, none⟩), .int .i64 0, .pointer (some ⟨w.heap.size + 1 + 1, 0, none⟩), .pointer (some ⟨Bx, 0, none⟩), .int .i64 (y.1 : Int), .int .i64 S, .func (.func 65) #[] #[.pointer (some ⟨w.heap.size + 1 + 1 + 1, 0, none⟩)], .int .i64 (x.1 : Int), .int .i64 S, .func (.func 65) #[] #[.pointer (some ⟨W.heap.size, 0, none⟩)], .int .i64 (y.1 : Int), undef, undef, undef, undef, undef, undef, undef, undef], defers := [] })
      (fun _ _ _ _ _ _ hs _ _ => hs)
      ?assign2 ?body2 ?done2 ?stop2
    case assign2 =>
      rintro l2 pre' y W' K hi hK
      simp only [encV]
      gi_wp2
      exact hK _ _ (KeepsFrom.refl _ _) (Below.refl _ _) hi rfl
    case body2 =>
      rintro l2 pre' y a'' W' _ _ ⟨⟨⟨⟨bF2, bX2⟩, bN2⟩, bS2⟩, hBW, hKF⟩ rfl _
      have n0 := bN2.cell
      have x0 := bX2.cell
      have f0 := bF2.cell
      have cf : ∀ w : World, Calls Tryd.prog 53 #[.int .i64 N, .int .i64 (x.1 : Int), .int .i64 (y.1 : Int)] w fun e w' => e = .returned (.int .i64 ((folN N x.1 y.1 : Nat) : Int)) ∧ w.grownBy w' none := fun w => by
        have := fol_any (N : Int) (x.1 : Int) (y.1 : Int) w
        rw [folW_nat hN (by omega) (by omega)] at this
        exact this
      have hk := folN_le N x.1 y.1
      have ce : ∀ w : World, Calls Tryd.prog 26 #[.int .i64 ((folN N x.1 y.1 : Nat) : Int)] w fun e w' => e = .returned (.int .i64 ((2 ^ folN N x.1 y.1 : Nat) : Int)) ∧ w = w' := setOf_any _ (by omega)
      have ha : inF N x.1 (outF N (valsA N S) pre) pre' < 2 ^ (N + 1) := inF_lt (outF_lt _ _ _) _
      have hor : bits .or .i64 ((inF N x.1 (outF N (valsA N S) pre) pre' : Nat) : Int) ((2 ^ folN N x.1 y.1 : Nat) : Int) = ((inF N x.1 (outF N (valsA N S) pre) (pre' ++ [y]) : Nat) : Int) := by
        rw [inF_snoc]
        exact or64 (Nat.lt_trans ha (Nat.pow_lt_pow_right (by omega) (by omega))) (pow62 hN.2 hk)
      have hd : 1 ≤ 6 - 1 - 1 - 1 - 1 := by decide
      have hmx : Tryd.prog.follows .mixedOrders = true := by kernel_rfl
      generalize hA : inF N x.1 (outF N (valsA N S) pre) pre' = A at *
      generalize hA2 : inF N x.1 (outF N (valsA N S) pre) (pre' ++ [y]) = A2 at *
      generalize folN N x.1 y.1 = k at *
      generalize 2 ^ k = k2 at *
      gi_wp2
      gi_region_with_o (first
        | (refine ⟨trivial, ?_⟩; gi_at_call 53; refine (CallsIn.inRound l2 (CallsIn.inRound l (callsIn_wide.2 (cf _)))).mono ?_; rintro e w' ⟨rfl, gx⟩; have n0' := cell_grownZ (w1 := W'.drew) n0 gx; have x0' := cell_grownZ (w1 := W'.drew) x0 gx; have f0' := cell_grownZ (w1 := W'.drew) f0 gx; have z0' := (bF2.kept (grownBy_trans (grownBy_drew (grownBy_refl W' none)) gx) (by simp)).frozen)
        | (refine ⟨trivial, ?_⟩; gi_at_call 26; refine (CallsIn.inRound l2 (CallsIn.inRound l (callsIn_wide.2 (ce _)))).mono ?_; rintro e w' ⟨rfl, rfl⟩))
      all_goals
        have g := grownBy_trans (grownBy_drew (grownBy_refl W' none)) gx
        have hle := Nat.le_trans hsW hBW.size
        have hB3 := ((below_of g).mono hle).setCell (p := ⟨w.heap.size + 1 + 1, 0, none⟩) (by simp <;> omega) (.int .i64 (A2 : Int))
        have hK3 := (((KeepsOthers.of_grownBy g (by simp)).trans (KeepsOthers.setCell _ ⟨w.heap.size + 1 + 1, 0, none⟩ (.int .i64 (A2 : Int)))).from W0.heap.size)
        gi_wp2
        exact ⟨((KeepsOthers.of_grownBy g (by simp)).trans (KeepsOthers.setCell _ _ _)).from _, hB3, ⟨⟨⟨⟨by rw [hA2]; exact (bF2.kept g (by simp)).set _, (bX2.kept g (by simp)).other (by omega) _⟩, (bN2.kept g (by simp)).other (by omega) _⟩, (bS2.kept g (by simp)).other (by omega) _⟩, hBW.trans hB3, hKF.trans hK3⟩⟩
    case done2 =>
      rintro ys' W' rfl ⟨⟨⟨⟨bF2, bX2⟩, bN2⟩, bS2⟩, hBW, hKF⟩
      gi_wp2
      exact ⟨hKF, hBW, ⟨⟨⟨by rw [outF_snoc]; exact bF2, bN2⟩, bS2⟩, hB1.trans hBW⟩⟩
    case stop2 =>
      rintro c pre' W' _ h
      exact h.elim
  case done =>
    rintro D zs W hD rfl ⟨⟨⟨bF1, bN1⟩, bS1⟩, hB1⟩ hK
    have cF : W.cell? ⟨w.heap.size + 1 + 1, 0, none⟩ = some (.int .i64 (folsN N S)) := bF1.cell
    gi_wp2
    refine ⟨by simp, .inl ⟨_, _, rfl, run_takeDeferred hK, ?_⟩⟩
    exact ⟨_, results_tmp rfl _ _ _, rfl, grown_ofZ (hB1.trans (belowK_b (w := w) (Nat.le_refl _) W D _ _ (by omega) hK rfl rfl))⟩
  case stop =>
    rintro D c pre W _ _ h _
    exact h.elim

end Go.Proofs.YtakjlfcgciglgaaDoor
