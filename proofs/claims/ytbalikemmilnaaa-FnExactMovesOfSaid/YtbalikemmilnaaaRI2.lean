/-
  impl.MovesOf: a range over what impl.settings yields, in which a function literal keeps how far it is at most. No condition.
-/
import Derived.Test.YtbalikemmilnaaaRI
import Derived.Test.YtbalikemmilnaaaALow
import Derived.Deep.RegionHeld3
namespace Go.Proofs.Ytbalikemmilnaaa
open Go.RowKit Go.Shelf
attribute [local go_sem] Oper.semAt_some

/-! Plain numbers: moved up from a place is moved down from the place a whole plane further on. -/
def pln (n : Nat) : Nat := (n + 1) * (n + 1)
theorem cub_pln (n : Nat) : cub n = n * pln n + pln n := by
  unfold cub pln
  rw [show (n + 1) * (n + 1) * (n + 1) = (n + 1) * ((n + 1) * (n + 1)) from Nat.mul_assoc _ _ _, Nat.add_mul n 1, Nat.one_mul]
theorem pln_A (n k : Nat) : (k + pln n) / (n + 1) / (n + 1) = k / (n + 1) / (n + 1) + 1 := by
  unfold pln
  rw [Nat.add_mul_div_right _ _ (by omega), Nat.add_div_right _ (by omega)]
theorem pln_B (n k : Nat) : tB n (k + pln n) = tB n k := by
  unfold tB pln
  rw [Nat.add_mul_div_right _ _ (by omega), Nat.add_mod_right]
theorem pln_C (n k : Nat) : tC n (k + pln n) = tC n k := by
  unfold tC pln
  rw [Nat.add_mul_mod_self_right]
theorem A_low {n k : Nat} (h : k < n * pln n) : tA n k < n := by
  rw [tA_eq (by rw [cub_pln]; omega), Nat.div_div_eq_div_mul]
  exact (Nat.div_lt_iff_lt_mul (show 0 < (n + 1) * (n + 1) from Nat.mul_pos (by omega) (by omega))).2 h
theorem A_top {n k : Nat} (h : n * pln n ≤ k) (hk : k < cub n) : tA n k = n := by
  have h1 := tA_le n k
  have h2 : n ≤ tA n k := by
    rw [tA_eq hk, Nat.div_div_eq_div_mul]
    exact (Nat.le_div_iff_mul_le (show 0 < (n + 1) * (n + 1) from Nat.mul_pos (by omega) (by omega))).2 h
  omega

/-- What is farthest of what was and what comes. -/
def farM (s g : Int) : Int := if g ≤ s then s else g
/-- How far a place is from the one a whole plane further on. -/
def upG (n : Nat) (t : Tr) (k : Nat) : Int := gap (atK n t k) (t.val n ((tA n k : Int) + 1) (tB n k) (tC n k))
def upL (n : Nat) (t : Tr) (pre : List Nat) : Int := pre.foldl (fun s k => if tA n k = n then s else farM s (upG n t k)) 0
theorem upL_s0 {n : Nat} {t : Tr} {pre : List Nat} {x : Nat} (h : tA n x = n) : upL n t (pre ++ [x]) = upL n t pre := by
  unfold upL; rw [List.foldl_append]; exact if_pos h
theorem upL_s1 {n : Nat} {t : Tr} {pre : List Nat} {x : Nat} (h : ¬ tA n x = n) : upL n t (pre ++ [x]) = farM (upL n t pre) (upG n t x) := by
  unfold upL; rw [List.foldl_append]; exact if_neg h
theorem movU_low (n : Nat) (t : Tr) : ∀ k, k ≤ pln n → movU n t k = 0 := by
  intro k
  induction k with
  | zero => intro _; rfl
  | succ k ih =>
    intro hk
    show (if k / (n + 1) / (n + 1) = 0 then _ else _) = _
    rw [if_pos (by rw [Nat.div_div_eq_div_mul]; exact Nat.div_eq_of_lt hk)]
    exact ih (by omega)
theorem upL_range (n : Nat) (t : Tr) : ∀ k, k ≤ n * pln n → upL n t (List.range k) = movU n t (k + pln n) := by
  intro k
  induction k with
  | zero => intro _; rw [Nat.zero_add, movU_low n t _ (Nat.le_refl _)]; rfl
  | succ k ih =>
    intro hk
    have hA := A_low (n := n) (k := k) (by omega)
    have hc : k + pln n < cub n := by rw [cub_pln]; omega
    have e1 : tA n (k + pln n) = tA n k + 1 := by rw [tA_eq hc, pln_A, tA_eq (by omega)]
    rw [List.range_succ, upL_s1 (show ¬ tA n k = n by omega), ih (by omega), show k + 1 + pln n = (k + pln n) + 1 by omega]
    show _ = (if (k + pln n) / (n + 1) / (n + 1) = 0 then _ else _)
    rw [if_neg (show ¬ (k + pln n) / (n + 1) / (n + 1) = 0 by rw [pln_A]; exact Nat.succ_ne_zero _), e1, pln_B, pln_C]
    unfold farM upG atK
    rw [show (((tA n k + 1 : Nat) : Int)) = (tA n k : Int) + 1 by omega, show ((tA n k : Int) + 1 - 1) = (tA n k : Int) by omega, gap_sym (t.val n ((tA n k : Int) + 1) _ _)]
theorem upL_top (n : Nat) (t : Tr) : ∀ j, n * pln n + j ≤ cub n → upL n t (List.range (n * pln n + j)) = movU n t (cub n) := by
  intro j
  induction j with
  | zero => intro _; rw [Nat.add_zero, upL_range n t _ (Nat.le_refl _), ← cub_pln]
  | succ j ih =>
    intro hj
    rw [show n * pln n + (j + 1) = (n * pln n + j) + 1 by omega, List.range_succ, upL_s0 (A_top (by omega) (by omega))]
    exact ih (by omega)
theorem upL_all (n : Nat) (t : Tr) : upL n t (List.range (cub n)) = movU n t (cub n) := by
  have := upL_top n t (pln n) (by rw [← cub_pln]; exact Nat.le_refl _)
  rwa [← cub_pln] at this

/-! The function literal. -/
set_option maxHeartbeats 1000000 in
theorem keep_any (n m p q : Int) (F B : Nat) (w : World) (hF : w.cell? ⟨F, 0, none⟩ = some (.int .i64 m)) (hf : w.frozen? ⟨F, 0, none⟩ = false) (hB : w.cell? ⟨B, 0, none⟩ = some (.int .i64 n)) (ht : twoB n p q = true) :
    Calls Try.prog 63 #[.int .i64 p, .int .i64 q, .pointer (some ⟨F, 0, none⟩), .pointer (some ⟨B, 0, none⟩)] w fun e w' => (∃ v, e = .returned v) ∧ w' = w.drew.setCell ⟨F, 0, none⟩ (.int .i64 (farM m (gap p q))) := by
  have c1 := fun w => far0_any n p q w
  rw [farW_t ht] at c1
  clear ht
  generalize gap p q = g at *
  unfold farM
  have hmx : Try.prog.follows .mixedOrders = true := by kernel_rfl
  by_cases hc : g ≤ m
  · rw [if_pos hc]
    go_enter Try.func63, Try.ntmps63
    go_wp2_with fail
    go_region_with (go_at_call 16; refine (c1 _).mono ?_; rintro e w' ⟨rfl, rfl⟩)
    all_goals
      go_wp2_with fail
      go_end0
      exact ⟨⟨_, rfl⟩, rfl⟩
  · rw [if_neg hc]
    go_enter Try.func63, Try.ntmps63
    go_wp2_with fail
    go_region_with (go_at_call 16; refine (c1 _).mono ?_; rintro e w' ⟨rfl, rfl⟩)
    all_goals
      go_wp2_with fail
      go_end0
      exact ⟨⟨_, rfl⟩, rfl⟩

/-! A region that draws its order, in a round of a loop over a function. -/

/-- Behind it all goes on. -/
def Norm (Q : Exit → Act → World → Prop) : Exit → Act → World → Prop := fun e a w => e = .normal ∧ Q e a w

theorem op_round {P : Program} {ops : Array Oper} {Q : Exit → Act → World → Prop} (l n i : Nat) {K K' : Act → World → Prop} {a : Act} {w : World} (hK : ∀ a w, K a w → K' a w)
    (hnd : ∀ (i : Nat) (o : Oper) (c : _), ops[i]? = some o → o.op ≠ .defer c) (h : wpOp P ops (Norm Q) i K a w) : wpOpIn (Fence.wide.inRound l) n P ops Q i K' a w := by
  unfold wpOp at h
  unfold wpOpIn
  cases ho : ops[i]? with
  | none => simp only [ho] at h ⊢; exact hK _ _ h
  | some o =>
    simp only [ho] at h ⊢
    split
    · rename_i hw
      simp only [hw, if_true] at h
      rcases h with h | ⟨_, x, y, hl, _⟩
      · unfold Oper.wp at h
        unfold Oper.wpIn
        refine ⟨fun _ _ => trivial, ?_⟩
        rw [Oper.semAt_plain _ _ _ fun c => hnd i o c ho]
        generalize (execOp a.eval o).run P w = r at *
        cases r with
        | ok x w' =>
          cases x <;> simp only [Oper.upon, Oper.uponIn] at h ⊢
          case value v => exact hK _ _ h
          case skip => exact hK _ _ h
          case defer d => exact hK _ _ h
          case enter f args =>
            refine ⟨fun hd => (by cases hd), CallsIn.inRound l ((callsIn_wide.2 h).mono ?_)⟩
            intro e w2 he
            cases e with
            | returned v => exact hK _ _ he
            | panicked c => exact absurd he.1 (by simp)
            | outgrown => obtain ⟨_, _, hl, _⟩ := he; cases hl
          case row r args =>
            refine ⟨fun hd => (by cases hd), ?_⟩
            intro c cs _
            obtain ⟨v, w2, h1, h2⟩ := h c cs
            exact ⟨v, w2, hK _ _ h1, stepsIn_wide.2 h2⟩
        | halt x w' =>
          cases x <;> simp only [Oper.upon, Oper.uponIn] at h ⊢
          case panic v => exact absurd h.1 (by simp)
      · cases hl
    · rename_i hw
      simp only [hw] at h
      exact ⟨fun _ _ => trivial, hK _ _ h⟩

theorem any_round {P : Program} {ops : Array Oper} {Q : Exit → Act → World → Prop} {md : Region.Mode} {S : World → Prop} (l n : Nat) (hnd : ∀ (i : Nat) (o : Oper) (c : _), ops[i]? = some o → o.op ≠ .defer c) :
    ∀ (fuel : Nat) (listed : Array Bool) (a : Act) (w : World), wpAnyH P md ops (Norm Q) S fuel listed a w → wpAnyIn (Fence.wide.inRound l) n P md ops Q fuel listed a w := by
  intro fuel
  induction fuel with
  | zero => intro listed a w h; exact ⟨h.1, h.2.2⟩
  | succ fuel ih => intro listed a w h; exact ⟨fun h0 => (h.1 h0).2, fun i hi => op_round l n i (fun a' w' h' => ih _ a' w' h'.2) hnd (h.2 i hi)⟩

def noDefer (ops : Array Oper) : Bool := ops.toList.all fun o => match o.op with | .defer _ => false | _ => true
theorem noDefer_of {ops : Array Oper} (h : noDefer ops = true) (i : Nat) (o : Oper) (c : _) (ho : ops[i]? = some o) : o.op ≠ .defer c := fun e => by
  have := List.all_eq_true.1 h o (by rw [Array.mem_toList_iff]; exact Array.mem_of_getElem? ho)
  rw [e] at this
  cases this

theorem region_round {P : Program} {ops : Array Oper} {Q : Exit → Act → World → Prop} {S : World → Prop} {l n id : Nat} {a : Act} {w : World} (hm : P.follows .mixedOrders = true) (hnd : noDefer ops = true) (hS : S w.drew)
    (h : S w.drew → wpAnyH P .any ops (Norm Q) S ops.size (Array.replicate ops.size false) a w.drew) : (Code.region id ops true).wpIn (Fence.wide.inRound l) n P Q a w :=
  wpIn_region_any hm (any_round l n (noDefer_of hnd) _ _ _ _ (h hS))

theorem tak_on {P : Program} {ops : Array Oper} {Q : Exit → Act → World → Prop} {md : Region.Mode} {S : World → Prop} (i d : Nat) {oi : Oper} {v : Value} {fuel : Nat} {listed : Array Bool} {a : Act} {w : World} (hi : ops[i]? = some oi) (hd : oi.dst = some d) (hs : Region.noSelect ops = true) (hf : Region.free md ops listed i = true) (hr : (Region.ready md ops listed).contains i = true)
    (hw : Region.wanted oi (yielded ops a.tmps) = true) (hy : ∀ w, S w → (execOp a.eval oi).run P w = .ok (.value v) w) (hS : S w) (h : wpAnyH P md ops (Norm Q) S fuel (listed.setIfInBounds i true) (a.put (some d) v) w) : wpAnyH P md ops (Norm Q) S (fuel + 1) listed a w :=
  wpAnyH_take hi hs hf hr (fun _ _ _ h => by cases h.1) (Or.inl ⟨hw, hy⟩) hS (by rw [hd]; exact h)

/-! What lies before impl.MovesOf's loop: the steps at B, the rest from block b on. -/
def MvBlk (B b N : Nat) (t : Tr) (v : Int) (W : World) : Prop :=
  BlkAt W B #[.int .i64 N] 3 ∧ BlkAt W b #[.iface (nodeT t) (nodeP t)] 58 ∧ BlkAt W (b + 1) #[.int .i64 v] 3 ∧
  BlkAt W (b + 1 + 1) #[.func (.func 63) #[] #[.pointer (some ⟨b + 1, 0, none⟩), .pointer (some ⟨B, 0, none⟩)]] 61 ∧ BlkAt W (b + 1 + 1 + 1) #[.int .i64 N] 3

theorem MvBlk.grown {B b N : Nat} {t : Tr} {v : Int} {W W' : World} (h : MvBlk B b N t v W) (hg : W.grownBy W' none) : MvBlk B b N t v W' :=
  ⟨h.1.grown hg, h.2.1.grown hg, h.2.2.1.grown hg, h.2.2.2.1.grown hg, h.2.2.2.2.grown hg⟩
theorem MvBlk.put {B b N : Nat} {t : Tr} {v : Int} {W : World} (h : MvBlk B b N t v W) (hB : B < b) (u : Int) : MvBlk B b N t u (W.setCell ⟨b + 1, 0, none⟩ (.int .i64 u)) :=
  ⟨h.1.other (by simp <;> omega) _, h.2.1.other (by simp) _, h.2.2.1.set 0 _, h.2.2.2.1.other (by simp <;> omega) _, h.2.2.2.2.other (by simp <;> omega) _⟩
theorem MvBlk.own {β : Type} (B b N : Nat) (t : Tr) (f : β → Int) : Own (fun s W => MvBlk B b N t (f s) W) :=
  Own.and (blk_own _ _ _) (Own.and (blk_own _ _ _) (Own.and (blk_own _ _ fun s => #[.int .i64 (f s)]) (Own.and (blk_own _ _ _) (blk_own _ _ _))))
theorem MvBlk.made (B N : Nat) (t : Tr) (w : World) (hB : BlkAt w B #[.int .i64 N] 3) : MvBlk B w.heap.size N t 0 ((((w.alloc (.cells #[.iface (nodeT t) (nodeP t)] 58)).alloc (.cells #[.int .i64 0] 3)).alloc (.cells #[(.func (.func 63) #[] #[.pointer (some ⟨w.heap.size + 1, 0, none⟩), .pointer (some ⟨B, 0, none⟩)])] 61)).alloc (.cells #[.int .i64 N] 3)) := by
  have h0 := BlkAt.new w #[.iface (nodeT t) (nodeP t)] 58
  have kB := hB.alloc (.cells #[.iface (nodeT t) (nodeP t)] 58)
  generalize hw0 : w.alloc (.cells #[.iface (nodeT t) (nodeP t)] 58) = w0 at *
  have e0 : w0.heap.size = w.heap.size + 1 := by rw [← hw0]; simp
  have h1 := BlkAt.new w0 #[.int .i64 0] 3
  have g1 : w0.grownBy (w0.alloc (.cells #[.int .i64 0] 3)) none := World.grownBy_alloc _ _ none
  generalize hw1 : w0.alloc (.cells #[.int .i64 0] 3) = w1 at *
  have e1 : w1.heap.size = w.heap.size + 1 + 1 := by rw [← hw1]; simp [e0]
  have h2 := BlkAt.new w1 #[(.func (.func 63) #[] #[.pointer (some ⟨w.heap.size + 1, 0, none⟩), .pointer (some ⟨B, 0, none⟩)])] 61
  have g2 : w1.grownBy (w1.alloc (.cells #[(.func (.func 63) #[] #[.pointer (some ⟨w.heap.size + 1, 0, none⟩), .pointer (some ⟨B, 0, none⟩)])] 61)) none := World.grownBy_alloc _ _ none
  generalize hw2 : w1.alloc (.cells #[(.func (.func 63) #[] #[.pointer (some ⟨w.heap.size + 1, 0, none⟩), .pointer (some ⟨B, 0, none⟩)])] 61) = w2 at *
  have e2 : w2.heap.size = w.heap.size + 1 + 1 + 1 := by rw [← hw2]; simp [e1]
  have h3 := BlkAt.new w2 #[.int .i64 N] 3
  have g3 : w2.grownBy (w2.alloc (.cells #[.int .i64 N] 3)) none := World.grownBy_alloc _ _ none
  rw [e0] at h1
  rw [e1] at h2
  rw [e2] at h3
  exact ⟨kB.grown (grownBy_trans g1 (grownBy_trans g2 g3)), h0.grown (grownBy_trans g1 (grownBy_trans g2 g3)), h1.grown (grownBy_trans g2 g3), h2.grown g3, h3⟩

set_option maxRecDepth 100000 in
set_option maxHeartbeats 4000000 in
theorem mov_yes (N : Nat) (hN : 1 ≤ N ∧ N ≤ 6) (s : ByteArray) (w : World) {t : Tr} (ho : fOf (bl s) = some t) :
    Calls Try.prog 38 #[.int .i64 N, .string s] w fun e w' => e = .returned (.int .i64 (movU N t (cub N))) ∧ w.grownBy w' none := by
  have n0 : (w.alloc (.cells #[.int .i64 N] 3)).cell? ⟨w.heap.size, 0, none⟩ = some (.int .i64 N) := (BlkAt.new w #[.int .i64 N] 3).cell rfl
  have cc := chain_yes s (w.alloc (.cells #[.int .i64 N] 3)) (inB_t (n := N) (by omega)) ho
  have hn1 := fun w1 (g : (w.alloc (.cells #[.int .i64 N] 3)).grownBy w1 none) => (BlkAt.new w #[.int .i64 N] 3).grown g
  have hn3 : ∀ w1, (w.alloc (.cells #[.int .i64 N] 3)).grownBy w1 none → ∀ o1 o2 o3, (((w1.alloc o1).alloc o2).alloc o3).cell? ⟨w.heap.size, 0, none⟩ = some (.int .i64 N) := fun w1 g o1 o2 o3 => cell_grown (cell_grown n0 g) (grownBy_trans (World.grownBy_alloc w1 o1 none) (grownBy_trans (World.grownBy_alloc _ o2 none) (World.grownBy_alloc _ o3 none)))
  clear ho
  refine (callsIn_wide (n := 5)).1 ?_
  refine callsIn_of_wp_marks Try.func38 rfl trivial ?_ rfl
  simp only [Try.ntmps38, List.size_toArray, List.length_cons, List.length_nil, Nat.reduceAdd, Nat.reduceSub, Array.replicate_succ, Array.replicate_zero, List.push_toArray, List.append_toArray, List.nil_append, List.cons_append]
  gi_wp2_with (refine ⟨trivial, ?_⟩; gi_at_call 62; refine (callsIn_wide.2 cc).mono ?_; rintro e w1 ⟨rfl, g1⟩; have n3 := hn3 _ g1)
  clear cc
  have hb1 := hn1 _ g1
  have n1 : w1.cell? ⟨w.heap.size, 0, none⟩ = some (.int .i64 N) := hb1.cell rfl
  have hlt1 : w.heap.size < w1.heap.size := hb1.lt
  have g3 : w1.grownBy (((w1.alloc (.cells #[.iface (nodeT t) (nodeP t)] 58)).alloc (.cells #[.int .i64 0] 3)).alloc (.cells #[(.func (.func 63) #[] #[.pointer (some ⟨w1.heap.size + 1, 0, none⟩), .pointer (some ⟨w.heap.size, 0, none⟩)])] 61)) none := grownBy_trans (World.grownBy_alloc w1 (.cells #[.iface (nodeT t) (nodeP t)] 58) none) (grownBy_trans (World.grownBy_alloc _ (.cells #[.int .i64 0] 3) none) (World.grownBy_alloc _ (.cells #[(.func (.func 63) #[] #[.pointer (some ⟨w1.heap.size + 1, 0, none⟩), .pointer (some ⟨w.heap.size, 0, none⟩)])] 61) none))
  gi_wp2_with (refine ⟨trivial, ?_⟩; gi_at_call 64; refine (settings_any _ _ trivial rfl _ _).mono ?_; rintro e w' ⟨rfl, rfl⟩)
  have hM := MvBlk.made w.heap.size N t w1 hb1
  have hg := grownBy_trans (World.grownBy_alloc w (.cells #[.int .i64 N] 3) none) (grownBy_trans g1 (grownBy_trans g3 (World.grownBy_alloc _ (.cells #[.int .i64 N] 3) none)))
  clear n3 hn3 g3 n1 n0 hn1
  obtain ⟨W0, hW0⟩ : ∃ W0, ((((w1.alloc (.cells #[.iface (nodeT t) (nodeP t)] 58)).alloc (.cells #[.int .i64 0] 3)).alloc (.cells #[(.func (.func 63) #[] #[.pointer (some ⟨w1.heap.size + 1, 0, none⟩), .pointer (some ⟨w.heap.size, 0, none⟩)])] 61)).alloc (.cells #[.int .i64 N] 3)) = W0 := ⟨_, rfl⟩
  rw [hW0] at hM hg ⊢
  have hsz : W0.heap.size = w1.heap.size + 1 + 1 + 1 + 1 := by rw [← hW0]; simp
  clear hW0
  have hB0 : Below w.heap.size w W0 := below_of hg
  clear hg
  refine wpIn_rangeFunc_ownH rfl (show 1 ≤ 5 from by decide) (gf := 75) (lb := #[.pointer (some ⟨w1.heap.size + 1 + 1 + 1, 0, none⟩)]) rfl trivial (enters_of Try.func75 (by kernel_rfl) rfl)
    (settings_stops Fence.wide (5 - 1) trivial rfl (by decide) (w1.heap.size + 1 + 1 + 1) N hN W0 (by omega) (hM.2.2.2.2.cell rfl)) kpC_t (kpC_b (by omega)) (Below.refl _ _) (fun _ => rfl)
    (fun pre W => MvBlk w.heap.size w1.heap.size N t (upL N t pre) W ∧ Below w.heap.size w W)
    (fun _ _ _ => False)
    (OwnFrom.and (Own.from (MvBlk.own _ _ _ _ (fun pre => upL N t pre)) _) (ownFrom_below (Nat.le_refl _) (by omega)))
    (fun _ _ _ _ _ hs _ _ => hs)
    ⟨hM, hB0⟩
    (fun x a' W => ∃ b, w1.heap.size + 1 + 1 + 1 < b ∧ BlkAt W b (set4 N x) 67 ∧ a' = { tmps := #[.int .i64 N, .string s, .pointer (some ⟨w.heap.size, 0, none⟩), undef, .int .i64 0, .pointer (some ⟨w1.heap.size, 0, none⟩), .bool true, .pointer (some ⟨w1.heap.size + 1, 0, none⟩), .pointer (some ⟨w1.heap.size + 1 + 1, 0, none⟩), .pointer (some ⟨b, 0, none⟩), undef, .tuple #[.iface (nodeT t) (nodeP t), .bool true], .int .i64 N, .string s, .tuple #[.iface (nodeT t) (nodeP t), .bool true], .iface (nodeT t) (nodeP t), .bool true, .bool true, .bool false, (.func (.func 63) #[] #[.pointer (some ⟨w1.heap.size + 1, 0, none⟩), .pointer (some ⟨w.heap.size, 0, none⟩)]), .int .i64 N, .func (.func 75) #[] #[.pointer (some ⟨w1.heap.size + 1 + 1 + 1, 0, none⟩)], .agg #[.int .i64 N, .int .i64 (tA N x), .int .i64 (tB N x), .int .i64 (tC N x)], undef, undef, undef, undef, undef, undef, undef, undef, undef, undef, undef, undef, undef, undef, undef, undef, undef, undef], defers := [] })
    (fun x a' => Own.from (fun s A B row hs hg hr => by obtain ⟨b, h1, h2, h3⟩ := hs; exact ⟨b, h1, blk_own (β := Unit) b _ (fun _ => set4 N x) () A B row h2 hg hr, h3⟩) _) ?assign ?body ?done ?stop
  case assign =>
    rintro l pre x W K ⟨hA, hB⟩ hK
    simp only [encK]
    gi_wp2
    exact hK _ _ ((KeepsOthers.alloc _ _).from _) (KpC.grown hA.2.2.2.2.lt (World.grownBy_alloc _ _ none)) ⟨hA.grown (World.grownBy_alloc _ _ none), hB.alloc hB.size _⟩ ⟨W.heap.size, hA.2.2.2.2.lt, BlkAt.new W _ _, rfl⟩
  case body =>
    rintro l pre x a' W hl ⟨r, hr⟩ ⟨hA, hB⟩ ⟨b, hb, hbx, rfl⟩ hlt
    have x0 : W.cell? ⟨b, 0, none⟩ = some (.int .i64 N) := hbx.cell rfl
    have x1 : W.cell? ⟨b, 1, none⟩ = some (.int .i64 (tA N x)) := hbx.cell rfl
    have x2 : W.cell? ⟨b, 2, none⟩ = some (.int .i64 (tB N x)) := hbx.cell rfl
    have x3 : W.cell? ⟨b, 3, none⟩ = some (.int .i64 (tC N x)) := hbx.cell rfl
    have cs := setting_any (N : Int) ((tA N x : Int) + 1) (tB N x) (tC N x)
    have a0 := tA_le N x
    have b0 := tB_le N x
    have c0 := tC_le N x
    have hWb : b < W.heap.size := hbx.lt
    by_cases hA1 : tA N x = N
    · have hth : thrB (N : Int) ((tA N x : Int) + 1) (tB N x) (tC N x) = false := thrB_f1 (by
        cases hv : vokB (N : Int) ((tA N x : Int) + 1)
        · rfl
        · have := vokB_of hv; omega)
      have hA2 := Lib.hid hA1
      clear hA1
      rw [hth] at cs
      gi_wp2_with (refine ⟨trivial, ?_⟩; gi_at_call 65; refine (CallsIn.inRound l (callsIn_wide.2 (cs _))).mono ?_; rintro e w2 ⟨rfl, g2⟩)
      have g := grownBy_trans (World.grownBy_alloc W (.cells #[.int .i64 N, .int .i64 ((tA N x : Int) + 1), .int .i64 (tB N x), .int .i64 (tC N x)] 67) none) g2
      exact ⟨(KeepsOthers.of_grownBy g (by simp)).from _, KpC.grown hA.2.2.2.2.lt g, by rw [upL_s0 hA2.out]; exact hA.grown g, hB.trans ((below_of g).mono hB.size)⟩
    · have ht0 := tri_ok hN x
      have hth : thrB (N : Int) ((tA N x : Int) + 1) (tB N x) (tC N x) = true := by
        obtain ⟨_, h2, h3⟩ := thrB_of ht0
        exact thrB_mk (vokB_t (by omega)) h2 h3
      rw [hth] at cs
      gi_wp2_with (refine ⟨trivial, ?_⟩; gi_at_call 65; refine (CallsIn.inRound l (callsIn_wide.2 (cs _))).mono ?_; rintro e w2 ⟨rfl, g2⟩)
      have g0 := World.grownBy_alloc W (.cells #[.int .i64 N, .int .i64 ((tA N x : Int) + 1), .int .i64 (tB N x), .int .i64 (tC N x)] 67) none
      have hn2 := (BlkAt.new W #[.int .i64 N, .int .i64 ((tA N x : Int) + 1), .int .i64 (tB N x), .int .i64 (tC N x)] 67).grown g2
      have g := grownBy_trans g0 g2
      have hA2 := hA.grown g
      have hb2 := hbx.grown g
      have hB2 := hB.trans ((below_of g).mono hB.size)
      have cv : ∀ w : World, Calls Try.prog 66 #[.agg #[.int .i64 N, .int .i64 (tA N x), .int .i64 (tB N x), .int .i64 (tC N x)], .iface (nodeT t) (nodeP t)] w fun e w' => e = .returned (.int .i64 (atK N t x)) ∧ w.grownBy w' none := vt_all ht0 t
      have cu : ∀ w : World, Calls Try.prog 66 #[.agg #[.int .i64 N, .int .i64 ((tA N x : Int) + 1), .int .i64 (tB N x), .int .i64 (tC N x)], .iface (nodeT t) (nodeP t)] w fun e w' => e = .returned (.int .i64 (t.val N ((tA N x : Int) + 1) (tB N x) (tC N x))) ∧ w.grownBy w' none := vt_all hth t
      have h2p : twoB N (atK N t x) (t.val N ((tA N x : Int) + 1) (tB N x) (tC N x)) = true := twoB_mk (val_ok ht0 t) (val_ok hth t)
      have ck := fun w' hF hf hB => keep_any (N : Int) (upL N t pre) (atK N t x) (t.val N ((tA N x : Int) + 1) (tB N x) (tC N x)) (w1.heap.size + 1) w.heap.size w' hF hf hB h2p
      have hup : Hid (upL N t (pre ++ [x]) = farM (upL N t pre) (gap (atK N t x) (t.val N ((tA N x : Int) + 1) (tB N x) (tC N x)))) := upL_s1 hA1
      have hS : w2.drew.cell? ⟨w1.heap.size + 1 + 1, 0, none⟩ = some (.func (.func 63) #[] #[.pointer (some ⟨w1.heap.size + 1, 0, none⟩), .pointer (some ⟨w.heap.size, 0, none⟩)]) ∧ w2.drew.cell? ⟨w1.heap.size, 0, none⟩ = some (.iface (nodeT t) (nodeP t)) ∧ w2.drew.cell? ⟨b, 0, none⟩ = some (.int .i64 N) ∧ w2.drew.cell? ⟨b, 1, none⟩ = some (.int .i64 (tA N x)) ∧ w2.drew.cell? ⟨b, 2, none⟩ = some (.int .i64 (tB N x)) ∧ w2.drew.cell? ⟨b, 3, none⟩ = some (.int .i64 (tC N x)) ∧ w2.drew.cell? ⟨W.heap.size, 0, none⟩ = some (.int .i64 N) ∧ w2.drew.cell? ⟨W.heap.size, 1, none⟩ = some (.int .i64 ((tA N x : Int) + 1)) ∧ w2.drew.cell? ⟨W.heap.size, 2, none⟩ = some (.int .i64 (tB N x)) ∧ w2.drew.cell? ⟨W.heap.size, 3, none⟩ = some (.int .i64 (tC N x)) := ⟨hA2.2.2.2.1.cell rfl, hA2.2.1.cell rfl, hb2.cell rfl, hb2.cell rfl, hb2.cell rfl, hb2.cell rfl, hn2.cell rfl, hn2.cell rfl, hn2.cell rfl, hn2.cell rfl⟩
      generalize t.val N ((tA N x : Int) + 1) (tB N x) (tC N x) = q at *
      generalize atK N t x = p at *
      refine region_round (S := fun w' => w'.cell? ⟨w1.heap.size + 1 + 1, 0, none⟩ = some (.func (.func 63) #[] #[.pointer (some ⟨w1.heap.size + 1, 0, none⟩), .pointer (some ⟨w.heap.size, 0, none⟩)]) ∧ w'.cell? ⟨w1.heap.size, 0, none⟩ = some (.iface (nodeT t) (nodeP t)) ∧ w'.cell? ⟨b, 0, none⟩ = some (.int .i64 N) ∧ w'.cell? ⟨b, 1, none⟩ = some (.int .i64 (tA N x)) ∧ w'.cell? ⟨b, 2, none⟩ = some (.int .i64 (tB N x)) ∧ w'.cell? ⟨b, 3, none⟩ = some (.int .i64 (tC N x)) ∧ w'.cell? ⟨W.heap.size, 0, none⟩ = some (.int .i64 N) ∧ w'.cell? ⟨W.heap.size, 1, none⟩ = some (.int .i64 ((tA N x : Int) + 1)) ∧ w'.cell? ⟨W.heap.size, 2, none⟩ = some (.int .i64 (tB N x)) ∧ w'.cell? ⟨W.heap.size, 3, none⟩ = some (.int .i64 (tC N x))) (by kernel_rfl) (by kernel_rfl) hS (fun hH => ?_)
      refine tak_on 0 32 (v := ?v0) rfl rfl (by kernel_rfl) (by kernel_rfl) (by kernel_rfl) (by rfl) ?y0 hH ?r0
      case y0 => (intro w hSw; obtain ⟨z0, z1, z2, z3, z4, z5, z6, z7, z8, z9⟩ := hSw; go_simp; try with_reducible rfl)
      simp only [Act.put, List.setIfInBounds_toArray, List.set_cons_zero, List.set_cons_succ]
      refine tak_on 1 33 (v := ?v1) rfl rfl (by kernel_rfl) (by kernel_rfl) (by kernel_rfl) (by rfl) ?y1 hH ?r1
      case y1 => (intro w hSw; obtain ⟨z0, z1, z2, z3, z4, z5, z6, z7, z8, z9⟩ := hSw; go_simp; try with_reducible rfl)
      simp only [Act.put, List.setIfInBounds_toArray, List.set_cons_zero, List.set_cons_succ]
      refine tak_on 2 34 (v := ?v2) rfl rfl (by kernel_rfl) (by kernel_rfl) (by kernel_rfl) (by rfl) ?y2 hH ?r2
      case y2 => (intro w hSw; obtain ⟨z0, z1, z2, z3, z4, z5, z6, z7, z8, z9⟩ := hSw; go_simp; try with_reducible rfl)
      simp only [Act.put, List.setIfInBounds_toArray, List.set_cons_zero, List.set_cons_succ]
      refine tak_on 4 36 (v := ?v4) rfl rfl (by kernel_rfl) (by kernel_rfl) (by kernel_rfl) (by rfl) ?y4 hH ?r4
      case y4 => (intro w hSw; obtain ⟨z0, z1, z2, z3, z4, z5, z6, z7, z8, z9⟩ := hSw; go_simp; try with_reducible rfl)
      simp only [Act.put, List.setIfInBounds_toArray, List.set_cons_zero, List.set_cons_succ]
      refine tak_on 5 37 (v := ?v5) rfl rfl (by kernel_rfl) (by kernel_rfl) (by kernel_rfl) (by rfl) ?y5 hH ?r5
      case y5 => (intro w hSw; obtain ⟨z0, z1, z2, z3, z4, z5, z6, z7, z8, z9⟩ := hSw; go_simp; try with_reducible rfl)
      simp only [Act.put, List.setIfInBounds_toArray, List.set_cons_zero, List.set_cons_succ]
      refine wpAnyH_ready (rs := [3]) (by kernel_rfl) (by simp) ?_
      refine AllReadyH.cons rfl (fun K hK => ?_) AllReadyH.nil
      go_simp
      (with_reducible refine (cv _).mono ?_); rintro e w3 ⟨rfl, g3⟩
      obtain ⟨z0, z1, z2, z3, z4, z5, z6, z7, z8, z9⟩ := hH
      have hS3 := And.intro (cell_grown z0 g3) (And.intro (cell_grown z1 g3) (And.intro (cell_grown z2 g3) (And.intro (cell_grown z3 g3) (And.intro (cell_grown z4 g3) (And.intro (cell_grown z5 g3) (And.intro (cell_grown z6 g3) (And.intro (cell_grown z7 g3) (And.intro (cell_grown z8 g3) (cell_grown z9 g3)))))))))
      clear z0 z1 z2 z3 z4 z5 z6 z7 z8 z9
      refine hK.out _ _ hS3 (fun h3 => ?_)
      clear hK K hS3
      try simp only [Act.put, List.setIfInBounds_toArray, List.set_cons_zero, List.set_cons_succ]
      refine wpAnyH_ready (rs := [6]) (by kernel_rfl) (by simp) ?_
      refine AllReadyH.cons rfl (fun K hK => ?_) AllReadyH.nil
      go_simp
      (with_reducible refine (cu _).mono ?_); rintro e w4 ⟨rfl, g4⟩
      obtain ⟨z0, z1, z2, z3, z4, z5, z6, z7, z8, z9⟩ := h3
      have hS4 := And.intro (cell_grown z0 g4) (And.intro (cell_grown z1 g4) (And.intro (cell_grown z2 g4) (And.intro (cell_grown z3 g4) (And.intro (cell_grown z4 g4) (And.intro (cell_grown z5 g4) (And.intro (cell_grown z6 g4) (And.intro (cell_grown z7 g4) (And.intro (cell_grown z8 g4) (cell_grown z9 g4)))))))))
      clear z0 z1 z2 z3 z4 z5 z6 z7 z8 z9
      refine hK.out _ _ hS4 (fun h4 => ?_)
      clear hK K hS4
      try simp only [Act.put, List.setIfInBounds_toArray, List.set_cons_zero, List.set_cons_succ]
      have g24 : w2.grownBy w4 none := grownBy_trans (grownBy_drew (grownBy_refl w2 none)) (grownBy_trans g3 g4)
      have hA4 := hA2.grown g24
      have f4 : w4.cell? ⟨w1.heap.size + 1, 0, none⟩ = some (.int .i64 (upL N t pre)) := hA4.2.2.1.cell rfl
      have fz4 := hA4.2.2.1.frozen 0
      have fb4 : w4.cell? ⟨w.heap.size, 0, none⟩ = some (.int .i64 N) := hA4.1.cell rfl
      have ck4 := ck w4 f4 fz4 fb4
      clear ck f4 fz4 fb4
      have hs4 := g.size
      refine wpAnyH_ready (rs := [7]) (by kernel_rfl) (by simp) ?_
      refine AllReadyH.cons rfl (fun K hK => ?_) AllReadyH.nil
      go_simp
      (with_reducible refine ck4.mono ?_); rintro e w5 ⟨⟨v, rfl⟩, rfl⟩
      obtain ⟨z0, z1, z2, z3, z4, z5, z6, z7, z8, z9⟩ := h4
      refine hK.out _ _ ⟨(World.cell?_setCell_far w4.drew _ _ _ (by simp)).trans z0, (World.cell?_setCell_far w4.drew _ _ _ (by simp)).trans z1, (World.cell?_setCell_far w4.drew _ _ _ (by simp; omega)).trans z2, (World.cell?_setCell_far w4.drew _ _ _ (by simp; omega)).trans z3, (World.cell?_setCell_far w4.drew _ _ _ (by simp; omega)).trans z4, (World.cell?_setCell_far w4.drew _ _ _ (by simp; omega)).trans z5, (World.cell?_setCell_far w4.drew _ _ _ (by simp; omega)).trans z6, (World.cell?_setCell_far w4.drew _ _ _ (by simp; omega)).trans z7, (World.cell?_setCell_far w4.drew _ _ _ (by simp; omega)).trans z8, (World.cell?_setCell_far w4.drew _ _ _ (by simp; omega)).trans z9⟩ (fun h5 => ?_)
      clear hK K
      try simp only [Act.put, List.setIfInBounds_toArray, List.set_cons_zero, List.set_cons_succ]
      refine wpAnyH_done (by kernel_rfl) ⟨rfl, ?_⟩ _
      have gW := grownBy_trans g g24
      have hB4 := hB.trans ((below_of gW).mono hB.size)
      gi_wp2
      exact ⟨(((KeepsOthers.of_grownBy gW (by simp)).trans (KeepsOthers.drew _)).trans (KeepsOthers.setCell _ _ _)).from _, kpC_t (KpC.grown hA.2.2.2.2.lt gW) (KpC.set w4.drew (by simp) _), by rw [hup.out]; exact hA4.put (by omega) _, (hB4.drew).setCell (by simp <;> omega) _⟩
  case done =>
    rintro D ys W hD rfl ⟨hA, hB⟩ hK
    rw [upL_all] at hA
    have n0 : W.cell? ⟨w1.heap.size + 1, 0, none⟩ = some (.int .i64 (movU N t (cub N))) := hA.2.2.1.cell rfl
    gi_wp2
    refine ⟨by simp, .inl ⟨_, _, rfl, run_takeDeferred hK, ?_⟩⟩
    exact ⟨_, results_tmp rfl _ _ _, rfl, grown_of (hB.trans (belowK_b (w := w) (Nat.le_refl _) W D _ _ (by omega) hK rfl rfl))⟩
  case stop =>
    rintro D c pre W _ _ h _
    exact h.elim

theorem mov_no (n : Int) (s : ByteArray) (w : World) (h : inB n 1 6 = false ∨ fOf (bl s) = none) :
    Calls Try.prog 38 #[.int .i64 n, .string s] w fun e w' => e = .returned (.int .i64 (-1)) ∧ w.grownBy w' none := by
  have cc := chain_no n s (w.alloc (.cells #[.int .i64 n] 3)) h
  have g0 := World.grownBy_alloc w (.cells #[.int .i64 n] 3) none
  clear h
  go_enter Try.func38, Try.ntmps38
  go_wp2_with fail
  refine cc.mono ?_
  rintro e w1 ⟨v, hv, rfl, g1⟩
  clear cc
  rcases hv with rfl | ⟨T, p, rfl⟩
  all_goals
    go_wp2_with fail
    go_ret
    exact ⟨rfl, grownBy_trans g0 (grownBy_trans g1 (World.grownBy_alloc _ _ none))⟩

theorem mov_any : MovC := fun n s w => by
  cases hi : inB n 1 6
  · rw [movI_o hi]; exact mov_no n s w (.inl hi)
  · cases ho : fOf (bl s) with
    | none => rw [movI_n ho]; exact mov_no n s w (.inr ho)
    | some t =>
      obtain ⟨N, rfl, hN⟩ := nat_of hi
      rw [movI_t ho hi]
      exact mov_yes N hN s w ho

end Go.Proofs.Ytbalikemmilnaaa
