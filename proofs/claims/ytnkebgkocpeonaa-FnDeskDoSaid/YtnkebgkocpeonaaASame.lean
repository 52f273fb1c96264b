/-
  impl.SameAt: a loop over what impl.settings yields, left by a return. No condition.
-/
import Derived.Test.YtnkebgkocpeonaaALow
import Derived.Test.YtnkebgkocpeonaaAlwF
namespace Go.Proofs.Ytnkebgkocpeonaa
open Go.RowKit Go.Shelf
attribute [local go_sem] Oper.semAt_some

/-- What chainTree answers, where only its sign matters. -/
def ChainSome (b : Bool) (w : World) (e : Ending) (w' : World) : Prop := ∃ v, IsNode v ∧ e = .returned (.tuple #[v, .bool b]) ∧ w.grownBy w' none
theorem chain_some (n : Int) (s : ByteArray) (w : World) : Calls Try.prog 65 #[.int .i64 n, .string s] w (ChainSome (inB n 1 6 && isF (bl s)) w) := by
  cases hi : inB n 1 6
  · exact chain_no n s w (.inl hi)
  · cases ho : fOf (bl s) with
    | none => rw [isF_f ho]; exact chain_no n s w (.inr ho)
    | some t =>
      rw [isF_t ho]
      exact (chain_yes s w hi ho).mono fun e w' ⟨h1, h2⟩ => ⟨_, .inr ⟨_, _, rfl⟩, h1, h2⟩

/-- What lies before impl.SameAt's loop. -/
def SaBlk (b0 b1 b2 N : Nat) (t u : Tr) (f : Bool) (W : World) : Prop :=
  BlkAt W b0 #[.bool f] 4 ∧ BlkAt W b1 #[.iface (nodeT t) (nodeP t)] 90 ∧ BlkAt W b2 #[.iface (nodeT u) (nodeP u)] 90 ∧ BlkAt W (b2 + 1) #[.int .i64 N] 3
theorem SaBlk.grown {b0 b1 b2 N : Nat} {t u : Tr} {f : Bool} {W W' : World} (h : SaBlk b0 b1 b2 N t u f W) (hg : W.grownBy W' none) : SaBlk b0 b1 b2 N t u f W' :=
  ⟨h.1.grown hg, h.2.1.grown hg, h.2.2.1.grown hg, h.2.2.2.grown hg⟩
theorem SaBlk.put {b0 b1 b2 N : Nat} {t u : Tr} {f : Bool} {W : World} (h : SaBlk b0 b1 b2 N t u f W) (h1 : b0 < b1) (h2 : b1 < b2) (f' : Bool) : SaBlk b0 b1 b2 N t u f' (W.setCell ⟨b0, 0, none⟩ (.bool f')) :=
  ⟨h.1.set 0 _, h.2.1.other (by simp <;> omega) _, h.2.2.1.other (by simp <;> omega) _, h.2.2.2.other (by simp <;> omega) _⟩
theorem SaBlk.own {β : Type} (b0 b1 b2 N : Nat) (t u : Tr) (f : Bool) : Own (fun (_ : β) W => SaBlk b0 b1 b2 N t u f W) :=
  Own.and (blk_own _ _ _) (Own.and (blk_own _ _ _) (Own.and (blk_own _ _ _) (blk_own _ _ _)))

set_option maxRecDepth 100000 in
set_option maxHeartbeats 8000000 in
theorem same_yes (N : Nat) (hN : 1 ≤ N ∧ N ≤ 6) (s s' : ByteArray) (w : World) {t u : Tr} (ho : fOf (bl s) = some t) (ho' : fOf (bl s') = some u) :
    Calls Try.prog 28 #[.int .i64 N, .string s, .string s'] w fun e w' => e = .returned (.bool (sameT N t u)) ∧ w.grownBy w' none := by
  have cc := fun w => chain_yes s w (inB_t (n := N) (by omega)) ho
  have cd := fun w => chain_yes s' w (inB_t (n := N) (by omega)) ho'
  clear ho ho'
  refine (callsIn_wide (n := 5)).1 ?_
  refine callsIn_of_wp_marks Try.func28 rfl trivial ?_ rfl
  simp only [Try.ntmps28, List.size_toArray, List.length_cons, List.length_nil, Nat.reduceAdd, Nat.reduceSub, Array.replicate_succ, Array.replicate_zero, List.push_toArray, List.append_toArray, List.nil_append, List.cons_append]
  gi_wp2_with (refine ⟨trivial, ?_⟩; gi_at_call 65; refine (callsIn_wide.2 (cc _)).mono ?_; clear cc; rintro e w1 ⟨rfl, g1⟩)
  gi_wp2_with (refine ⟨trivial, ?_⟩; gi_at_call 65; refine (callsIn_wide.2 (cd _)).mono ?_; clear cd; rintro e w2 ⟨rfl, g2⟩)
  gi_wp2_with (refine ⟨trivial, ?_⟩; gi_at_call 66; refine (settings_any _ _ trivial rfl _ _).mono ?_; rintro e w' ⟨rfl, rfl⟩)
  have s1 := g1.size
  have s2 := g2.size
  simp only [World.size_alloc] at s1 s2
  have r1 := (BlkAt.new w #[.bool false] 4).grown g1
  have r2 := (BlkAt.new w1 #[.iface (nodeT t) (nodeP t)] 90).grown g2
  have r3 := BlkAt.new w2 #[.iface (nodeT u) (nodeP u)] 90
  have r4 := BlkAt.new (w2.alloc (.cells #[.iface (nodeT u) (nodeP u)] 90)) #[.int .i64 N] 3
  rw [World.size_alloc] at r4
  have hM : SaBlk w.heap.size w1.heap.size w2.heap.size N t u false ((w2.alloc (.cells #[.iface (nodeT u) (nodeP u)] 90)).alloc (.cells #[.int .i64 N] 3)) :=
    ⟨(((r1.alloc _).grown g2).alloc _).alloc _, (r2.alloc _).alloc _, r3.alloc _, r4⟩
  have hg := grownBy_trans (grownBy_trans (World.grownBy_alloc w (.cells #[.bool false] 4) none) g1) (grownBy_trans (grownBy_trans (World.grownBy_alloc w1 (.cells #[.iface (nodeT t) (nodeP t)] 90) none) g2) (grownBy_trans (World.grownBy_alloc w2 (.cells #[.iface (nodeT u) (nodeP u)] 90) none) (World.grownBy_alloc _ (.cells #[.int .i64 N] 3) none)))
  clear r1 r2 r3 r4
  obtain ⟨W0, hW0⟩ : ∃ W0, ((w2.alloc (.cells #[.iface (nodeT u) (nodeP u)] 90)).alloc (.cells #[.int .i64 N] 3)) = W0 := ⟨_, rfl⟩
  rw [hW0] at hM hg ⊢
  have hsz : W0.heap.size = w2.heap.size + 1 + 1 := by rw [← hW0]; simp
  clear hW0
  have hB0 : Below w.heap.size w W0 := below_of hg
  clear hg g1 g2
  have l1 : w.heap.size < w1.heap.size := by omega
  have l2 : w1.heap.size < w2.heap.size := by omega
  refine wpIn_rangeFunc_ownH rfl (show 1 ≤ 5 from by decide) (gf := 87) (lb := #[.pointer (some ⟨w2.heap.size + 1, 0, none⟩)]) rfl trivial (enters_of Try.func87 (by kernel_rfl) rfl)
    (settings_stops Fence.wide (5 - 1) trivial rfl (by decide) (w2.heap.size + 1) N hN W0 (by omega) (hM.2.2.2.cell rfl)) kpC_t (kpC_b (by omega)) (Below.refl _ _) (fun _ => rfl)
    (fun pre W => (SaBlk w.heap.size w1.heap.size w2.heap.size N t u false W ∧ ∀ x ∈ pre, atK N t x = atK N u x) ∧ Below w.heap.size w W)
    (fun c pre W => (SaBlk w.heap.size w1.heap.size w2.heap.size N t u false W ∧ (∃ q x, pre = q ++ [x] ∧ atK N t x ≠ atK N u x) ∧ c = .ret) ∧ Below w.heap.size w W)
    (OwnFrom.and (Own.from (Own.and (SaBlk.own _ _ _ _ _ _ _) (own_pure _)) _) (ownFrom_below (Nat.le_refl _) (by omega)))
    (fun c => OwnFrom.and (Own.from (Own.and (SaBlk.own _ _ _ _ _ _ _) (own_pure _)) _) (ownFrom_below (Nat.le_refl _) (by omega)))
    ⟨⟨hM, by simp⟩, hB0⟩
    (fun x a' W => ∃ b, w2.heap.size + 1 < b ∧ BlkAt W b (set4 N x) 98 ∧ a' = { tmps := #[.int .i64 N, .string s, .string s', undef, undef, undef, .pointer (some ⟨w.heap.size, 0, none⟩), .pointer (some ⟨w1.heap.size, 0, none⟩), .bool true, .pointer (some ⟨w2.heap.size, 0, none⟩), .bool true, .pointer (some ⟨b, 0, none⟩), .tuple #[.iface (nodeT t) (nodeP t), .bool true], .int .i64 N, .string s, .tuple #[.iface (nodeT t) (nodeP t), .bool true], .iface (nodeT t) (nodeP t), .bool true, .tuple #[.iface (nodeT u) (nodeP u), .bool true], .int .i64 N, .string s', .tuple #[.iface (nodeT u) (nodeP u), .bool true], .iface (nodeT u) (nodeP u), .bool true, .bool true, .bool false, .bool false, .bool true, .bool false, .bool false, .int .i64 N, .func (.func 87) #[] #[.pointer (some ⟨w2.heap.size + 1, 0, none⟩)], .agg #[.int .i64 N, .int .i64 (tA N x), .int .i64 (tB N x), .int .i64 (tC N x)], undef, undef, undef, undef, undef, undef, undef], defers := [] })
    (fun x a' => Own.from (fun s A B row hs hg hr => by obtain ⟨b, h1, h2, h3⟩ := hs; exact ⟨b, h1, blk_own (β := Unit) b _ (fun _ => set4 N x) () A B row h2 hg hr, h3⟩) _) ?assign ?body ?done ?stop
  case assign =>
    rintro l pre x W K ⟨⟨hA, hp⟩, hB⟩ hK
    simp only [encK]
    gi_wp2
    exact hK _ _ ((KeepsOthers.alloc _ _).from _) (KpC.grown hA.2.2.2.lt (World.grownBy_alloc _ _ none)) ⟨⟨hA.grown (World.grownBy_alloc _ _ none), hp⟩, hB.alloc hB.size _⟩ ⟨W.heap.size, hA.2.2.2.lt, BlkAt.new W _ _, rfl⟩
  case body =>
    rintro l pre x a' W hl ⟨r, hr⟩ ⟨⟨hA, hp⟩, hB⟩ ⟨b, hb, hbx, rfl⟩ hlt
    have t0 : W.cell? ⟨w1.heap.size, 0, none⟩ = some (.iface (nodeT t) (nodeP t)) := hA.2.1.cell rfl
    have u0 : W.cell? ⟨w2.heap.size, 0, none⟩ = some (.iface (nodeT u) (nodeP u)) := hA.2.2.1.cell rfl
    have x0 : W.cell? ⟨b, 0, none⟩ = some (.int .i64 N) := hbx.cell rfl
    have x1 : W.cell? ⟨b, 1, none⟩ = some (.int .i64 (tA N x)) := hbx.cell rfl
    have x2 : W.cell? ⟨b, 2, none⟩ = some (.int .i64 (tB N x)) := hbx.cell rfl
    have x3 : W.cell? ⟨b, 3, none⟩ = some (.int .i64 (tC N x)) := hbx.cell rfl
    have cv : ∀ w : World, Calls Try.prog 67 #[.agg #[.int .i64 N, .int .i64 (tA N x), .int .i64 (tB N x), .int .i64 (tC N x)], .iface (nodeT t) (nodeP t)] w fun e w' => e = .returned (.int .i64 (atK N t x)) ∧ w.grownBy w' none := vt_all (tri_ok hN x) t
    have cu : ∀ w : World, Calls Try.prog 67 #[.agg #[.int .i64 N, .int .i64 (tA N x), .int .i64 (tB N x), .int .i64 (tC N x)], .iface (nodeT u) (nodeP u)] w fun e w' => e = .returned (.int .i64 (atK N u x)) ∧ w.grownBy w' none := vt_all (tri_ok hN x) u
    have hd : 1 ≤ 5 - 1 - 1 := by decide
    have hmx : Try.prog.follows .mixedOrders = true := by kernel_rfl
    cases hv : (atK N t x != atK N u x)
    · have he : atK N t x = atK N u x := by simpa using hv
      gi_wp2
      gi_region_with_o (refine ⟨trivial, ?_⟩; gi_at_call 67; first
        | ((with_reducible refine (CallsIn.inRound l (callsIn_wide.2 (cv _))).mono ?_); clear cv; rintro e wa ⟨rfl, ga⟩; have u0' := cell_grown (w1 := W.drew) u0 ga; have x0' := cell_grown (w1 := W.drew) x0 ga; have x1' := cell_grown (w1 := W.drew) x1 ga; have x2' := cell_grown (w1 := W.drew) x2 ga; have x3' := cell_grown (w1 := W.drew) x3 ga)
        | ((with_reducible refine (CallsIn.inRound l (callsIn_wide.2 (cu _))).mono ?_); clear cu; rintro e wb ⟨rfl, gb⟩))
      all_goals
        have g := grownBy_trans (grownBy_trans (grownBy_drew (grownBy_refl W none)) ga) gb
        clear ga gb
        gi_wp2
        exact ⟨(KeepsOthers.of_grownBy g (by simp)).from _, KpC.grown hA.2.2.2.lt g, ⟨hA.grown g, fun y hy => (List.mem_append.1 hy).elim (hp y) (fun e => by simp at e; rw [e]; exact he)⟩, hB.trans ((below_of g).mono hB.size)⟩
    · have he : atK N t x ≠ atK N u x := by simpa using hv
      gi_wp2
      gi_region_with_o (refine ⟨trivial, ?_⟩; gi_at_call 67; first
        | ((with_reducible refine (CallsIn.inRound l (callsIn_wide.2 (cv _))).mono ?_); clear cv; rintro e wa ⟨rfl, ga⟩; have u0' := cell_grown (w1 := W.drew) u0 ga; have x0' := cell_grown (w1 := W.drew) x0 ga; have x1' := cell_grown (w1 := W.drew) x1 ga; have x2' := cell_grown (w1 := W.drew) x2 ga; have x3' := cell_grown (w1 := W.drew) x3 ga)
        | ((with_reducible refine (CallsIn.inRound l (callsIn_wide.2 (cu _))).mono ?_); clear cu; rintro e wb ⟨rfl, gb⟩))
      all_goals
        have g := grownBy_trans (grownBy_trans (grownBy_drew (grownBy_refl W none)) ga) gb
        clear ga gb
        have hA' := hA.grown g
        have r0 : wb.cell? ⟨w.heap.size, 0, none⟩ = some (.bool false) := hA'.1.cell rfl
        have z0 := hA'.1.frozen 0
        gi_wp2
        exact ⟨((KeepsOthers.of_grownBy g (by simp)).trans (KeepsOthers.setCell _ _ _)).from _, ⟨hA'.put l1 l2 false, ⟨pre, x, rfl, he⟩, rfl⟩, hB.trans (((below_of g).mono hB.size).setCell (by simp) _)⟩
  case done =>
    rintro D ys W hD rfl ⟨⟨hA, hp⟩, hB⟩ hK
    have hs : sameT N t u = true := sameT_mk fun k hk => hp k (List.mem_range.2 hk)
    have r0 : W.cell? ⟨w.heap.size, 0, none⟩ = some (.bool false) := hA.1.cell rfl
    have z0 := hA.1.frozen 0
    gi_wp2
    have hK' := (KeepsOthers.setCell W ⟨w.heap.size, 0, none⟩ (.bool true)).same D _ hK rfl
    refine ⟨by simp, .inl ⟨_, _, rfl, run_takeDeferred hK', ?_⟩⟩
    have c0 := cell_kept ((hA.put l1 l2 true).1.cell (i := 0) rfl) (grownBy_putObj' _ D (.deferred none)) (fun r e => by cases e; exact ⟨_, hK', rfl⟩)
    refine ⟨.bool true, ?_, by first | rfl | rw [hs], grown_of ((hB.setCell (p := ⟨w.heap.size, 0, none⟩) (by simp) _).trans (belowK_b (w := w) (Nat.le_refl _) _ D _ _ (by omega) hK' rfl rfl))⟩
    simp [results, Try.f28, go_sem, c0]
  case stop =>
    rintro D c pre W hD ⟨k, hk, rfl⟩ ⟨⟨hA, ⟨q, x, hq, hx⟩, rfl⟩, hB⟩ hK
    rw [List.range_succ] at hq
    obtain ⟨_, hx'⟩ := List.append_inj' hq rfl
    obtain rfl : k = x := by simpa using hx'
    have hs : sameT N t u = false := sameT_no hk hx
    gi_wp2
    refine ⟨by simp, .inl ⟨_, _, rfl, run_takeDeferred hK, ?_⟩⟩
    have c0 := cell_kept (hA.1.cell (i := 0) rfl) (grownBy_putObj' _ D (.deferred none)) (fun r e => by cases e; exact ⟨_, hK, rfl⟩)
    refine ⟨.bool false, ?_, by first | rfl | rw [hs], grown_of (hB.trans (belowK_b (w := w) (Nat.le_refl _) _ D _ _ (by omega) hK rfl rfl))⟩
    simp [results, Try.f28, go_sem, c0]

end Go.Proofs.Ytnkebgkocpeonaa
