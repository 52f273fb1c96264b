/-
  impl.chainTree and impl.LeastAt: the least value over what impl.settings yields. No condition.
-/
import Derived.Test.YtnkebgkocpeonaaAgn
namespace Go.Proofs.Ytnkebgkocpeonaa
open Go.RowKit Go.Shelf
attribute [local go_sem] Oper.semAt_some

theorem chain_no (n : Int) (s : ByteArray) (w : World) (h : inB n 1 6 = false ∨ fOf (bl s) = none) :
    Calls Try.prog 65 #[.int .i64 n, .string s] w (TreeNo w) := by
  cases hi : inB n 1 6
  · have cs := steps_any n w
    rw [hi] at cs
    clear h
    go_enter Try.func65, Try.ntmps65
    go_wp2_with (go_at_call 48; refine cs.mono ?_; rintro e w' ⟨rfl, rfl⟩)
    go_ret2
    exact ⟨_, .inl rfl, rfl, grownBy_refl _ _⟩
  · have ho : fOf (bl s) = none := h.resolve_left (by rw [hi]; simp)
    have cs := steps_any n w
    rw [hi] at cs
    have ct := tree_no s w ho
    clear h ho
    go_enter Try.func65, Try.ntmps65
    go_wp2_with (go_at_call 48; refine cs.mono ?_; rintro e w' ⟨rfl, rfl⟩)
    refine ct.mono ?_
    rintro e w1 ⟨v, hv, rfl, g1⟩
    clear ct cs
    go_wp2_with fail
    go_ret2
    exact ⟨v, hv, rfl, g1⟩

theorem chain_yes {n : Int} (s : ByteArray) (w : World) {t : Tr} (hi : inB n 1 6 = true) (ho : fOf (bl s) = some t) :
    Calls Try.prog 65 #[.int .i64 n, .string s] w (TreeYes t w) := by
  have cs := steps_any n w
  rw [hi] at cs
  have ct := tree_yes s w ho
  clear ho
  go_enter Try.func65, Try.ntmps65
  go_wp2_with (go_at_call 48; refine cs.mono ?_; rintro e w' ⟨rfl, rfl⟩)
  refine ct.mono ?_
  rintro e w1 ⟨rfl, g1⟩
  clear ct cs
  go_wp2_with fail
  go_ret2
  exact ⟨rfl, g1⟩

/-- The least value over what has come. -/
def lowL (N : Nat) (t : Tr) (pre : List Nat) : Int := pre.foldl (fun s k => if s ≤ atK N t k then s else atK N t k) (N : Int)
theorem lowL_s1 {N : Nat} {t : Tr} {pre : List Nat} {x : Nat} (h : lowL N t pre ≤ atK N t x) : lowL N t (pre ++ [x]) = lowL N t pre := by
  unfold lowL at *
  rw [List.foldl_append]
  exact if_pos h
theorem lowL_s2 {N : Nat} {t : Tr} {pre : List Nat} {x : Nat} (h : ¬ lowL N t pre ≤ atK N t x) : lowL N t (pre ++ [x]) = atK N t x := by
  unfold lowL at *
  rw [List.foldl_append]
  exact if_neg h
theorem lowL_range (N : Nat) (t : Tr) : ∀ K, lowL N t (List.range K) = lowU N t K := by
  intro K
  induction K with
  | zero => rfl
  | succ K ih =>
    rw [List.range_succ]
    by_cases h : lowL N t (List.range K) ≤ atK N t K
    · rw [lowL_s1 h, ih]
      rw [ih] at h
      exact (lowU_s1 h).symm
    · rw [lowL_s2 h]
      rw [ih] at h
      exact (lowU_s2 h).symm

/-- What lies before impl.LeastAt's loop, from block b on. -/
def LoBlk (b N : Nat) (t : Tr) (v : Int) (W : World) : Prop :=
  BlkAt W b #[.iface (nodeT t) (nodeP t)] 90 ∧ BlkAt W (b + 1) #[.int .i64 v] 3 ∧ BlkAt W (b + 1 + 1) #[.int .i64 N] 3
theorem LoBlk.grown {b N : Nat} {t : Tr} {v : Int} {W W' : World} (h : LoBlk b N t v W) (hg : W.grownBy W' none) : LoBlk b N t v W' :=
  ⟨h.1.grown hg, h.2.1.grown hg, h.2.2.grown hg⟩
theorem LoBlk.put {b N : Nat} {t : Tr} {v : Int} {W : World} (h : LoBlk b N t v W) (u : Int) : LoBlk b N t u (W.setCell ⟨b + 1, 0, none⟩ (.int .i64 u)) :=
  ⟨h.1.other (by simp) _, h.2.1.set 0 _, h.2.2.other (by simp) _⟩
theorem LoBlk.own {β : Type} (b N : Nat) (t : Tr) (f : β → Int) : Own (fun s W => LoBlk b N t (f s) W) :=
  Own.and (blk_own _ _ _) (Own.and (blk_own _ _ fun s => #[.int .i64 (f s)]) (blk_own _ _ _))
theorem LoBlk.made (N : Nat) (t : Tr) (v : Int) (w : World) : LoBlk w.heap.size N t v (((w.alloc (.cells #[.iface (nodeT t) (nodeP t)] 90)).alloc (.cells #[.int .i64 v] 3)).alloc (.cells #[.int .i64 N] 3)) := by
  have h0 := BlkAt.new w #[.iface (nodeT t) (nodeP t)] 90
  generalize hw0 : w.alloc (.cells #[.iface (nodeT t) (nodeP t)] 90) = w0 at *
  have e0 : w0.heap.size = w.heap.size + 1 := by rw [← hw0]; simp
  have h1 := BlkAt.new w0 #[.int .i64 v] 3
  have g1 : w0.grownBy (w0.alloc (.cells #[.int .i64 v] 3)) none := World.grownBy_alloc _ _ none
  generalize hw1 : w0.alloc (.cells #[.int .i64 v] 3) = w1 at *
  have e1 : w1.heap.size = w.heap.size + 1 + 1 := by rw [← hw1]; simp [e0]
  have h2 := BlkAt.new w1 #[.int .i64 N] 3
  have g2 : w1.grownBy (w1.alloc (.cells #[.int .i64 N] 3)) none := World.grownBy_alloc _ _ none
  rw [e0] at h1
  rw [e1] at h2
  exact ⟨h0.grown (grownBy_trans g1 g2), h1.grown g2, h2⟩

end Go.Proofs.Ytnkebgkocpeonaa
