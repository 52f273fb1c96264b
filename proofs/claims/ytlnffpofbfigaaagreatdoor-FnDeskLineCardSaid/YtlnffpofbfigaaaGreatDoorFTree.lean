/-
  impl: formula finds what the plain parser finds; treeOf; FormulaOk. No condition.
-/
import Derived.Test.YtlnffpofbfigaaaGreatDoorFRead
namespace Go.Proofs.YtlnffpofbfigaaaGreatDoor
open Go.RowKit Go.Maps Go.Joins

theorem FNo.post {R B : Nat} {w w' : World} {e : Ending} (h : FNo R B w e w') {o : Option (Tr × List UInt8)} (ho : o = none) : FPost o R B w e w' := by rw [ho]; exact h
theorem FYes.post {t : Tr} {r : List UInt8} {R B : Nat} {w w' : World} {e : Ending} (h : FYes t r R B w e w') {o : Option (Tr × List UInt8)} (ho : o = some (t, r)) : FPost o R B w e w' := by rw [ho]; exact h

theorem pair_of {k : Nat} (H : ReadsTo k) (s : ByteArray) (w : World) (R B : Nat) (h : RdF w R B s) (hk : (bl s).length ≤ k) :
    Calls Tryz.prog 176 #[.pointer (some ⟨R, 0, none⟩)] w (FPost (prp (prs k) (bl s)) R B w) := by
  cases ho : prs k (bl s) with
  | none => exact (pair_no1 H s w R B h hk ho).mono fun e w' hp => hp.post (by unfold prp; rw [ho])
  | some p =>
    obtain ⟨x, r0⟩ := p
    cases r0 with
    | nil => exact (pair_no2 H s w R B h hk ho).mono fun e w' hp => hp.post (by unfold prp; rw [ho])
    | cons d r =>
      cases hd : sgOf d with
      | none => exact (pair_no3 H s w R B h hk ho hd).mono fun e w' hp => hp.post (by unfold prp; rw [ho]; simp only [hd])
      | some g =>
        have hdg := sgOf_some hd
        subst hdg
        cases ho2 : prs k r with
        | none => exact (pair_no4 H s w R B h hk ho ho2).mono fun e w' hp => hp.post (by unfold prp; rw [ho]; simp only [hd, ho2])
        | some p2 =>
          obtain ⟨y, q0⟩ := p2
          cases q0 with
          | nil => exact (pair_no5 H s w R B h hk ho ho2).mono fun e w' hp => hp.post (by unfold prp; rw [ho]; simp only [hd, ho2])
          | cons c q =>
            by_cases he : c = 41
            · subst he
              exact (pair_yes H s w R B h hk ho ho2).mono fun e w' hp => hp.post (by unfold prp; rw [ho]; simp only [hd, ho2, if_true])
            · exact (pair_no6 H s w R B h hk ho ho2 (by simpa using he)).mono fun e w' hp => hp.post (by unfold prp; rw [ho]; simp only [hd, ho2, if_neg he])

theorem formula_end (s : ByteArray) (w : World) (R B : Nat) (h : RdF w R B s) (hs : bl s = []) :
    Calls Tryz.prog 140 #[.pointer (some ⟨R, 0, none⟩)] w (FNo R B w) := by
  have c1 := next_no s w R B h hs
  clear hs
  go_enter Tryz.func140, Tryz.ntmps140
  go_wp2_with fail
  refine c1.mono ?_
  rintro e w1 ⟨rfl, rfl⟩
  go_wp2_with fail
  go_ret2
  exact ⟨_, _, .inl rfl, rfl, h, grownBy_refl _ _⟩

theorem formula_lt (x : Lr) (l : List UInt8) (s : ByteArray) (w : World) (R B : Nat) (h : RdF w R B s) (hs : bl s = x.byte :: l) :
    Calls Tryz.prog 140 #[.pointer (some ⟨R, 0, none⟩)] w (FYes (.lt x) l R B w) := by
  have c1 := next_yes s w R B h _ _ hs
  clear hs
  cases x
  all_goals
    go_enter Tryz.func140, Tryz.ntmps140
    go_wp2_with fail
    refine c1.mono ?_
    rintro e w1 ⟨s1, hs1, rfl, h1, g1⟩
    clear c1
    unfold Lr.byte
    go_wp2_with fail
    go_region
    all_goals
      go_wp2
      go_ret2
      exact ⟨_, hs1, rfl, h1, grownBy_drew g1⟩

theorem formula_tru (b : Bool) (l : List UInt8) (s : ByteArray) (w : World) (R B : Nat) (h : RdF w R B s) (hs : bl s = (if b then 49 else 48) :: l) :
    Calls Tryz.prog 140 #[.pointer (some ⟨R, 0, none⟩)] w (FYes (.tru b) l R B w) := by
  have c1 := next_yes s w R B h _ _ hs
  clear hs
  cases b
  all_goals
    go_enter Tryz.func140, Tryz.ntmps140
    go_wp2_with fail
    refine c1.mono ?_
    rintro e w1 ⟨s1, hs1, rfl, h1, g1⟩
    clear c1
    simp only [if_true, Bool.false_eq_true, if_false]
    go_wp2_with fail
    go_ret2
    exact ⟨_, hs1, rfl, h1, g1⟩

theorem formula_neg_yes {k : Nat} (H : ReadsTo k) (l : List UInt8) (s : ByteArray) (w : World) (R B : Nat) (h : RdF w R B s) (hs : bl s = 33 :: l) (hk : l.length ≤ k) {t : Tr} {r : List UInt8} (ho : prs k l = some (t, r)) :
    Calls Tryz.prog 140 #[.pointer (some ⟨R, 0, none⟩)] w (FYes (.neg t) r R B w) := by
  have c1 := next_yes s w R B h _ _ hs
  clear hs
  go_enter Tryz.func140, Tryz.ntmps140
  go_wp2_with fail
  refine c1.mono ?_
  rintro e w1 ⟨s1, rfl, rfl, h1, g1⟩
  have c2 := H.yes h1 hk ho
  clear c1 ho H hk
  go_wp2_with fail
  refine c2.mono ?_
  rintro e w2 ⟨s2, hs2, rfl, h2, g2⟩
  clear c2
  go_wp2_with fail
  go_ret2
  exact ⟨_, hs2, rfl, h2, grownBy_trans g1 g2⟩

theorem formula_neg_no {k : Nat} (H : ReadsTo k) (l : List UInt8) (s : ByteArray) (w : World) (R B : Nat) (h : RdF w R B s) (hs : bl s = 33 :: l) (hk : l.length ≤ k) (ho : prs k l = none) :
    Calls Tryz.prog 140 #[.pointer (some ⟨R, 0, none⟩)] w (FNo R B w) := by
  have c1 := next_yes s w R B h _ _ hs
  clear hs
  go_enter Tryz.func140, Tryz.ntmps140
  go_wp2_with fail
  refine c1.mono ?_
  rintro e w1 ⟨s1, rfl, rfl, h1, g1⟩
  have c2 := H.no h1 hk ho
  clear c1 ho H hk
  go_wp2_with fail
  refine c2.mono ?_
  rintro e w2 ⟨v, s2, hv, rfl, h2, g2⟩
  clear c2
  rcases hv with rfl | ⟨T, p, rfl⟩
  all_goals
    go_wp2_with fail
    go_ret2
    exact ⟨_, _, .inr ⟨_, _, rfl⟩, rfl, h2, grownBy_trans g1 g2⟩

theorem formula_open {k : Nat} (H : ReadsTo k) (l : List UInt8) (s : ByteArray) (w : World) (R B : Nat) (h : RdF w R B s) (hs : bl s = 40 :: l) (hk : l.length ≤ k) :
    Calls Tryz.prog 140 #[.pointer (some ⟨R, 0, none⟩)] w (FPost (prp (prs k) l) R B w) := by
  have c1 := next_yes s w R B h _ _ hs
  clear hs
  generalize ho : prp (prs k) l = o
  cases o with
  | none =>
    go_enter Tryz.func140, Tryz.ntmps140
    go_wp2_with fail
    refine c1.mono ?_
    rintro e w1 ⟨s1, rfl, rfl, h1, g1⟩
    have c2 := pair_of H s1 w1 R B h1 hk
    rw [ho] at c2
    clear c1 ho H hk
    go_wp2_with fail
    refine c2.mono ?_
    rintro e w2 ⟨v, s2, hv, rfl, h2, g2⟩
    clear c2
    go_wp2_with fail
    go_ret2
    exact ⟨_, _, hv, rfl, h2, grownBy_trans g1 g2⟩
  | some p =>
    obtain ⟨t, r⟩ := p
    go_enter Tryz.func140, Tryz.ntmps140
    go_wp2_with fail
    refine c1.mono ?_
    rintro e w1 ⟨s1, rfl, rfl, h1, g1⟩
    have c2 := pair_of H s1 w1 R B h1 hk
    rw [ho] at c2
    clear c1 ho H hk
    go_wp2_with fail
    refine c2.mono ?_
    rintro e w2 ⟨s2, hs2, rfl, h2, g2⟩
    clear c2
    go_wp2_with fail
    go_ret2
    exact ⟨_, hs2, rfl, h2, grownBy_trans g1 g2⟩

theorem formula_other (c : UInt8) (l : List UInt8) (s : ByteArray) (w : World) (R B : Nat) (h : RdF w R B s) (hs : bl s = c :: l) (hc : PrsOther c) :
    Calls Tryz.prog 140 #[.pointer (some ⟨R, 0, none⟩)] w (FNo R B w) := by
  have c1 := next_yes s w R B h _ _ hs
  clear hs
  obtain ⟨n1, n2, n3, n4, n5, n6, n7⟩ := hc
  have e1 : (c == 97) = false := by simpa using n1
  have e2 : (c == 98) = false := by simpa using n2
  have e3 : (c == 99) = false := by simpa using n3
  have e4 : (c == 48) = false := by simpa using n4
  have e5 : (c == 49) = false := by simpa using n5
  have e6 : (c == 33) = false := by simpa using n6
  have e7 : (c == 40) = false := by simpa using n7
  clear n1 n2 n3 n4 n5 n6 n7
  go_enter Tryz.func140, Tryz.ntmps140
  go_wp2_with fail
  refine c1.mono ?_
  rintro e w1 ⟨s1, hs1, rfl, h1, g1⟩
  clear c1 hs1
  go_wp2_with fail
  go_ret2
  exact ⟨_, _, .inl rfl, rfl, h1, g1⟩

theorem reads_to : ∀ k : Nat, ReadsTo k := by
  intro k
  induction k with
  | zero =>
    intro s w R B h hk
    have hs : bl s = [] := List.length_eq_zero_iff.1 (by omega)
    rw [hs]
    exact (formula_end s w R B h hs).mono fun e w' hp => hp.post rfl
  | succ k ih =>
    intro s w R B h hk
    cases hs : bl s with
    | nil => exact (formula_end s w R B h hs).mono fun e w' hp => hp.post (prs_nil _)
    | cons c l =>
      rw [hs] at hk
      have hk' : l.length ≤ k := by simp at hk; omega
      rcases byte_cases c with rfl | rfl | rfl | rfl | rfl | rfl | rfl | ho
      · exact (formula_lt .la l s w R B h hs).mono fun e w' hp => hp.post rfl
      · exact (formula_lt .lb l s w R B h hs).mono fun e w' hp => hp.post rfl
      · exact (formula_lt .lc l s w R B h hs).mono fun e w' hp => hp.post rfl
      · exact (formula_tru false l s w R B h hs).mono fun e w' hp => hp.post rfl
      · exact (formula_tru true l s w R B h hs).mono fun e w' hp => hp.post rfl
      · cases ho : prs k l with
        | none => exact (formula_neg_no ih l s w R B h hs hk' ho).mono fun e w' hp => hp.post (by rw [prs_n, ho])
        | some p =>
          obtain ⟨t, r⟩ := p
          exact (formula_neg_yes ih l s w R B h hs hk' ho).mono fun e w' hp => hp.post (by rw [prs_n, ho])
      · rw [prs_p]; exact formula_open ih l s w R B h hs hk'
      · exact (formula_other c l s w R B h hs ho).mono fun e w' hp => hp.post (prs_o k l ho)

def TreeNo (w : World) (e : Ending) (w' : World) : Prop := ∃ v, IsNode v ∧ e = .returned (.tuple #[v, .bool false]) ∧ w.grownBy w' none
def TreeYes (t : Tr) (w : World) (e : Ending) (w' : World) : Prop := e = .returned (.tuple #[.iface (nodeT t) (nodeP t), .bool true]) ∧ w.grownBy w' none

theorem RdF.made {w w1 : World} {s : ByteArray} (ho : w1.ownsMap Tryz.prog 9 anyElem w.heap.size 5 signsD) (t : TypeId) :
    RdF (w1.alloc (.cells #[.string s, .map (some w.heap.size)] t)) w1.heap.size w.heap.size s := by
  have hlt := ho.lt
  obtain ⟨c0, c1, f0, _⟩ := cells_new (heap_alloc_new w1 (.cells #[.string s, .map (some w.heap.size)] t))
  exact ⟨c0, c1, f0, ho.alloc _, by omega⟩

theorem tree_long (s : ByteArray) (w : World) (hs : 60 < (bl s).length) :
    Calls Tryz.prog 105 #[.string s] w (TreeNo w) := by
  have hsz : 60 < s.size := by rw [bl_size]; exact hs
  have hd : decide ((60 : Int) < (s.size : Int)) = true := by simp; omega
  go_enter Tryz.func105, Tryz.ntmps105
  go_wp2_with fail
  go_ret2
  exact ⟨_, .inl rfl, rfl, grownBy_refl _ _⟩

theorem tree_no1 (s : ByteArray) (w : World) (hs : (bl s).length ≤ 60) (ho : prs (bl s).length (bl s) = none) :
    Calls Tryz.prog 105 #[.string s] w (TreeNo w) := by
  have hsz : s.size ≤ 60 := by rw [bl_size]; exact hs
  have hd : decide ((60 : Int) < (s.size : Int)) = false := by simp; omega
  go_enter Tryz.func105, Tryz.ntmps105
  go_wp2_with fail
  refine (signs_any _).mono ?_
  rintro e w1 ⟨rfl, hm, g1⟩
  have hr := RdF.made (s := s) hm 154
  have c2 := (reads_to _).no hr (Nat.le_refl _) ho
  clear hm ho
  go_wp2_with fail
  refine c2.mono ?_
  rintro e w2 ⟨v, s2, hv, rfl, h2, g2⟩
  clear c2 hr
  go_wp2_with fail
  go_region
  all_goals
    go_wp2
    go_ret2
    exact ⟨_, hv, rfl, grownBy_drew (grownBy_trans g1 (grownBy_own (World.grownBy_alloc _ _ _) g2))⟩

theorem tree_no2 (s : ByteArray) (w : World) (hs : (bl s).length ≤ 60) {t : Tr} {c : UInt8} {r : List UInt8} (ho : prs (bl s).length (bl s) = some (t, c :: r)) :
    Calls Tryz.prog 105 #[.string s] w (TreeNo w) := by
  have hsz : s.size ≤ 60 := by rw [bl_size]; exact hs
  have hd : decide ((60 : Int) < (s.size : Int)) = false := by simp; omega
  go_enter Tryz.func105, Tryz.ntmps105
  go_wp2_with fail
  refine (signs_any _).mono ?_
  rintro e w1 ⟨rfl, hm, g1⟩
  have hr := RdF.made (s := s) hm 154
  have c2 := (reads_to _).yes hr (Nat.le_refl _) ho
  clear hm ho
  go_wp2_with fail
  refine c2.mono ?_
  rintro e w2 ⟨s2, hs2, rfl, h2, g2⟩
  have he := bl_full hs2
  have hc := h2.1
  clear c2 hr hs2
  go_wp2_with fail
  go_region
  all_goals
    go_wp2
    go_ret2
    exact ⟨_, .inr ⟨_, _, rfl⟩, rfl, grownBy_drew (grownBy_trans g1 (grownBy_own (World.grownBy_alloc _ _ _) g2))⟩

theorem tree_yes1 (s : ByteArray) (w : World) (hs : (bl s).length ≤ 60) {t : Tr} (ho : prs (bl s).length (bl s) = some (t, [])) :
    Calls Tryz.prog 105 #[.string s] w (TreeYes t w) := by
  have hsz : s.size ≤ 60 := by rw [bl_size]; exact hs
  have hd : decide ((60 : Int) < (s.size : Int)) = false := by simp; omega
  go_enter Tryz.func105, Tryz.ntmps105
  go_wp2_with fail
  refine (signs_any _).mono ?_
  rintro e w1 ⟨rfl, hm, g1⟩
  have hr := RdF.made (s := s) hm 154
  have c2 := (reads_to _).yes hr (Nat.le_refl _) ho
  clear hm ho
  go_wp2_with fail
  refine c2.mono ?_
  rintro e w2 ⟨s2, hs2, rfl, h2, g2⟩
  have he := bl_empty hs2
  have hc := h2.1
  clear c2 hr hs2
  go_wp2_with fail
  go_region
  all_goals
    go_wp2
    go_ret2
    exact ⟨rfl, grownBy_drew (grownBy_trans g1 (grownBy_own (World.grownBy_alloc _ _ _) g2))⟩

theorem tree_no (s : ByteArray) (w : World) (h : fOf (bl s) = none) :
    Calls Tryz.prog 105 #[.string s] w (TreeNo w) := by
  by_cases hl : (bl s).length ≤ 60
  · rw [fOf_short hl] at h
    unfold par at h
    cases ho : prs (bl s).length (bl s) with
    | none => exact tree_no1 s w hl ho
    | some p =>
      obtain ⟨t, r⟩ := p
      cases r with
      | nil => rw [ho] at h; cases h
      | cons c r => exact tree_no2 s w hl ho
  · exact tree_long s w (by omega)

theorem tree_yes (s : ByteArray) (w : World) {t : Tr} (h : fOf (bl s) = some t) :
    Calls Tryz.prog 105 #[.string s] w (TreeYes t w) := by
  obtain ⟨e, hl⟩ := fOf_some h
  have hp := prs_full t t.txt.length [] (Nat.le_refl _)
  rw [List.append_nil, ← e] at hp
  exact tree_yes1 s w (by rw [e]; exact hl) hp

theorem form_any (s : ByteArray) (w : World) :
    Calls Tryz.prog 55 #[.string s] w fun e w' => e = .returned (.bool (isF (bl s))) ∧ w.grownBy w' none := by
  cases h : fOf (bl s) with
  | none =>
    have ht := tree_no s w h
    rw [isF_f h]
    clear h
    go_enter Tryz.func55, Tryz.ntmps55
    go_wp2_with fail
    refine ht.mono ?_
    rintro e w1 ⟨v, hv, rfl, g1⟩
    go_wp2_with fail
    go_ret
    exact ⟨rfl, g1⟩
  | some t =>
    have ht := tree_yes s w h
    rw [isF_t h]
    clear h
    go_enter Tryz.func55, Tryz.ntmps55
    go_wp2_with fail
    refine ht.mono ?_
    rintro e w1 ⟨rfl, g1⟩
    go_wp2_with fail
    go_ret
    exact ⟨rfl, g1⟩

end Go.Proofs.YtlnffpofbfigaaaGreatDoor
