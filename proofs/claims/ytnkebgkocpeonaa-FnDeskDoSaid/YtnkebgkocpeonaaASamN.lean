/-
  impl.SameAt, where there is no such chain or a text is no formula; and for all. No condition.
-/
import Derived.Test.YtnkebgkocpeonaaASame
namespace Go.Proofs.Ytnkebgkocpeonaa
open Go.RowKit Go.Shelf

/-- The call's own cell for its result, over what two calls have made. -/
theorem res_cell {w w1 w2 : World} {C C' : Array Value} {T : TypeId} (g1 : (w.alloc (.cells #[.bool false] 4)).grownBy w1 none) (g2 : (w1.alloc (.cells C T)).grownBy w2 none) :
    BlkAt (w2.alloc (.cells C' T)) w.heap.size #[.bool false] 4 := ((((BlkAt.new w #[.bool false] 4).grown g1).alloc _).grown g2).alloc _
theorem res_grown {w w1 w2 : World} {C C' : Array Value} {T : TypeId} (g1 : (w.alloc (.cells #[.bool false] 4)).grownBy w1 none) (g2 : (w1.alloc (.cells C T)).grownBy w2 none) (v : Value) :
    w.grownBy ((w2.alloc (.cells C' T)).setCell ⟨w.heap.size, 0, none⟩ v) none :=
  grown_of ((below_of (grownBy_trans (grownBy_trans (World.grownBy_alloc w _ none) g1) (grownBy_trans (grownBy_trans (World.grownBy_alloc w1 _ none) g2) (World.grownBy_alloc w2 _ none)))).setCell (by simp) _)

theorem same_no1 (n : Int) (s s' : ByteArray) (w : World) (h : (inB n 1 6 && isF (bl s)) = false) :
    Calls Try.prog 28 #[.int .i64 n, .string s, .string s'] w fun e w' => e = .returned (.bool false) ∧ w.grownBy w' none := by
  have cc := fun w => chain_some n s w
  have cd := fun w => chain_some n s' w
  rw [h] at cc
  generalize (inB n 1 6 && isF (bl s')) = b2 at cd
  clear h
  go_enter Try.func28, Try.ntmps28
  go_wp2_with fail
  refine (cc _).mono ?_
  rintro e w1 ⟨v, hv, rfl, g1⟩
  clear cc
  rcases hv with rfl | ⟨T, p, rfl⟩
  all_goals
    go_wp2_with fail
    refine (cd _).mono ?_
    rintro e w2 ⟨v', hv', rfl, g2⟩
    clear cd
    have R := fun C => res_cell (C' := C) g1 g2
    have c0 := fun C => (R C).cell (i := 0) rfl
    have z0 := fun C => (R C).frozen 0
    rcases hv' with rfl | ⟨T', p', rfl⟩
    all_goals
      go_wp2_with fail
      refine bodyPost_ret (v := .bool false) ?_ rfl ⟨rfl, res_grown g1 g2 _⟩
      have c1 := fun C => ((R C).set 0 (.bool false)).cell (i := 0) rfl
      simp [results, Try.f28, go_sem, c1]

theorem same_no2 (N : Nat) (hN : 1 ≤ N ∧ N ≤ 6) (s s' : ByteArray) (w : World) {t : Tr} (ho : fOf (bl s) = some t) (h' : fOf (bl s') = none) :
    Calls Try.prog 28 #[.int .i64 N, .string s, .string s'] w fun e w' => e = .returned (.bool false) ∧ w.grownBy w' none := by
  have cc := fun w => chain_yes s w (inB_t (n := N) (by omega)) ho
  have cd := fun w => chain_no N s' w (.inr h')
  clear ho h'
  go_enter Try.func28, Try.ntmps28
  go_wp2_with fail
  refine (cc _).mono ?_
  rintro e w1 ⟨rfl, g1⟩
  clear cc
  go_wp2_with fail
  refine (cd _).mono ?_
  rintro e w2 ⟨v', hv', rfl, g2⟩
  clear cd
  have R := fun C => res_cell (C' := C) g1 g2
  have c0 := fun C => (R C).cell (i := 0) rfl
  have z0 := fun C => (R C).frozen 0
  rcases hv' with rfl | ⟨T', p', rfl⟩
  all_goals
    go_wp2_with fail
    refine bodyPost_ret (v := .bool false) ?_ rfl ⟨rfl, res_grown g1 g2 _⟩
    have c1 := fun C => ((R C).set 0 (.bool false)).cell (i := 0) rfl
    simp [results, Try.f28, go_sem, c1]

theorem samat_any (n : Int) (s s' : ByteArray) (w : World) :
    Calls Try.prog 28 #[.int .i64 n, .string s, .string s'] w fun e w' => e = .returned (.bool (sameI n (bl s) (bl s'))) ∧ w.grownBy w' none := by
  cases hi : inB n 1 6
  · rw [sameI_o hi]; exact same_no1 n s s' w (by rw [hi]; rfl)
  · cases ho : fOf (bl s) with
    | none => rw [sameI_n ho]; exact same_no1 n s s' w (by rw [isF_f ho, hi]; rfl)
    | some t =>
      obtain ⟨N, rfl, hN⟩ := nat_of hi
      cases ho' : fOf (bl s') with
      | none => rw [sameI_m ho']; exact same_no2 N hN s s' w ho ho'
      | some u => rw [sameI_t ho ho' hi]; exact same_yes N hN s s' w ho ho'

end Go.Proofs.Ytnkebgkocpeonaa
