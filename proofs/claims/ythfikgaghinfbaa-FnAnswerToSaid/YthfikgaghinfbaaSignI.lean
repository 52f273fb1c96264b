/-
  The contracts of impl's five signs of two values, and of ManyTimes on both sides. No condition.
-/
import Derived.Test.YthfikgaghinfbaaSignMap
namespace Go.Proofs.Ythfikgaghinfbaa
open Go.RowKit Go.Maps Go.Joins

theorem twoB_no {n a b : Int} (h : twoB n a b = false) : vokB n a = false ∨ (vokB n a = true ∧ vokB n b = false) := by
  unfold twoB at h
  cases h1 : vokB n a
  · exact Or.inl rfl
  · rw [h1, Bool.true_and] at h
    exact Or.inr ⟨rfl, h⟩

theorem signed_fol (n a b : Int) (w : World) :
    Calls Try.prog 54 #[.string ⟨#[62]⟩, .int .i64 n, .int .i64 a, .int .i64 b] w fun e w' => e = .returned (.int .i64 (folW n a b)) ∧ w.grownBy w' none := by
  cases h : twoB n a b
  · rw [folW_f h]
    rcases twoB_no h with h1 | ⟨h1, h2⟩
    all_goals
      go_enter Try.func54, Try.ntmps54
      go_wp2_with (first
        | (go_at_call 69; refine (signs_any _).mono ?_; rintro e w1 ⟨rfl, ho, hg⟩; have hl : (Instr.lookup 71 (.map (some w.heap.size)) (.string ⟨#[62]⟩) true).run Try.prog w1 = .ok (.tuple #[.func (.func 81) #[] #[], .bool true]) w1 := look_own ho keyedS Try.underlying71 (zeroSign _) (signK_of 62) signs_fol.1 signs_fol.2)
        | (go_at_call 50; refine (vok_any _ _ _).mono ?_; rintro e w' ⟨rfl, rfl⟩))
      go_ret
      exact ⟨rfl, hg⟩
  · have h1 := (twoB_of h).1
    have h2 := (twoB_of h).2.1
    go_enter Try.func54, Try.ntmps54
    go_wp2_with (first
      | (go_at_call 69; refine (signs_any _).mono ?_; rintro e w1 ⟨rfl, ho, hg⟩; have hl : (Instr.lookup 71 (.map (some w.heap.size)) (.string ⟨#[62]⟩) true).run Try.prog w1 = .ok (.tuple #[.func (.func 81) #[] #[], .bool true]) w1 := look_own ho keyedS Try.underlying71 (zeroSign _) (signK_of 62) signs_fol.1 signs_fol.2)
      | (go_at_call 50; refine (vok_any _ _ _).mono ?_; rintro e w' ⟨rfl, rfl⟩)
      | (go_at_call 81; refine (fol_lit _ _ _ h _).mono ?_; rintro e w' ⟨rfl, rfl⟩))
    go_ret
    exact ⟨rfl, hg⟩

theorem signed_plus (n a b : Int) (w : World) :
    Calls Try.prog 54 #[.string ⟨#[43]⟩, .int .i64 n, .int .i64 a, .int .i64 b] w fun e w' => e = .returned (.int .i64 (plusW n a b)) ∧ w.grownBy w' none := by
  cases h : twoB n a b
  · rw [plusW_f h]
    rcases twoB_no h with h1 | ⟨h1, h2⟩
    all_goals
      go_enter Try.func54, Try.ntmps54
      go_wp2_with (first
        | (go_at_call 69; refine (signs_any _).mono ?_; rintro e w1 ⟨rfl, ho, hg⟩; have hl : (Instr.lookup 71 (.map (some w.heap.size)) (.string ⟨#[43]⟩) true).run Try.prog w1 = .ok (.tuple #[.func (.func 82) #[] #[], .bool true]) w1 := look_own ho keyedS Try.underlying71 (zeroSign _) (signK_of 43) signs_plus.1 signs_plus.2)
        | (go_at_call 50; refine (vok_any _ _ _).mono ?_; rintro e w' ⟨rfl, rfl⟩))
      go_ret
      exact ⟨rfl, hg⟩
  · have h1 := (twoB_of h).1
    have h2 := (twoB_of h).2.1
    go_enter Try.func54, Try.ntmps54
    go_wp2_with (first
      | (go_at_call 69; refine (signs_any _).mono ?_; rintro e w1 ⟨rfl, ho, hg⟩; have hl : (Instr.lookup 71 (.map (some w.heap.size)) (.string ⟨#[43]⟩) true).run Try.prog w1 = .ok (.tuple #[.func (.func 82) #[] #[], .bool true]) w1 := look_own ho keyedS Try.underlying71 (zeroSign _) (signK_of 43) signs_plus.1 signs_plus.2)
      | (go_at_call 50; refine (vok_any _ _ _).mono ?_; rintro e w' ⟨rfl, rfl⟩)
      | (go_at_call 82; refine (plus_lit _ _ _ h _).mono ?_; rintro e w' ⟨rfl, rfl⟩))
    go_ret
    exact ⟨rfl, hg⟩

theorem signed_times (n a b : Int) (w : World) :
    Calls Try.prog 54 #[.string ⟨#[42]⟩, .int .i64 n, .int .i64 a, .int .i64 b] w fun e w' => e = .returned (.int .i64 (timesW n a b)) ∧ w.grownBy w' none := by
  cases h : twoB n a b
  · rw [timesW_f h]
    rcases twoB_no h with h1 | ⟨h1, h2⟩
    all_goals
      go_enter Try.func54, Try.ntmps54
      go_wp2_with (first
        | (go_at_call 69; refine (signs_any _).mono ?_; rintro e w1 ⟨rfl, ho, hg⟩; have hl : (Instr.lookup 71 (.map (some w.heap.size)) (.string ⟨#[42]⟩) true).run Try.prog w1 = .ok (.tuple #[.func (.func 83) #[] #[], .bool true]) w1 := look_own ho keyedS Try.underlying71 (zeroSign _) (signK_of 42) signs_times.1 signs_times.2)
        | (go_at_call 50; refine (vok_any _ _ _).mono ?_; rintro e w' ⟨rfl, rfl⟩))
      go_ret
      exact ⟨rfl, hg⟩
  · have h1 := (twoB_of h).1
    have h2 := (twoB_of h).2.1
    go_enter Try.func54, Try.ntmps54
    go_wp2_with (first
      | (go_at_call 69; refine (signs_any _).mono ?_; rintro e w1 ⟨rfl, ho, hg⟩; have hl : (Instr.lookup 71 (.map (some w.heap.size)) (.string ⟨#[42]⟩) true).run Try.prog w1 = .ok (.tuple #[.func (.func 83) #[] #[], .bool true]) w1 := look_own ho keyedS Try.underlying71 (zeroSign _) (signK_of 42) signs_times.1 signs_times.2)
      | (go_at_call 50; refine (vok_any _ _ _).mono ?_; rintro e w' ⟨rfl, rfl⟩)
      | (go_at_call 83; refine (times_lit _ _ _ h _).mono ?_; rintro e w' ⟨rfl, rfl⟩))
    go_ret
    exact ⟨rfl, hg⟩

theorem times_any (n a b : Int) (w : World) :
    Calls Try.prog 25 #[.int .i64 n, .int .i64 a, .int .i64 b] w fun e w' => e = .returned (.int .i64 (timesW n a b)) ∧ w.grownBy w' none := by
  go_enter Try.func25, Try.ntmps25
  go_wp2_with (go_at_call 54; refine (signed_times _ _ _ _).mono ?_; rintro e w1 ⟨rfl, hg⟩)
  go_ret
  exact ⟨rfl, hg⟩

theorem signed_less (n a b : Int) (w : World) :
    Calls Try.prog 54 #[.string ⟨#[38]⟩, .int .i64 n, .int .i64 a, .int .i64 b] w fun e w' => e = .returned (.int .i64 (lessW n a b)) ∧ w.grownBy w' none := by
  cases h : twoB n a b
  · rw [lessW_f h]
    rcases twoB_no h with h1 | ⟨h1, h2⟩
    all_goals
      go_enter Try.func54, Try.ntmps54
      go_wp2_with (first
        | (go_at_call 69; refine (signs_any _).mono ?_; rintro e w1 ⟨rfl, ho, hg⟩; have hl : (Instr.lookup 71 (.map (some w.heap.size)) (.string ⟨#[38]⟩) true).run Try.prog w1 = .ok (.tuple #[.func (.func 84) #[] #[], .bool true]) w1 := look_own ho keyedS Try.underlying71 (zeroSign _) (signK_of 38) signs_less.1 signs_less.2)
        | (go_at_call 50; refine (vok_any _ _ _).mono ?_; rintro e w' ⟨rfl, rfl⟩))
      go_ret
      exact ⟨rfl, hg⟩
  · have h1 := (twoB_of h).1
    have h2 := (twoB_of h).2.1
    go_enter Try.func54, Try.ntmps54
    go_wp2_with (first
      | (go_at_call 69; refine (signs_any _).mono ?_; rintro e w1 ⟨rfl, ho, hg⟩; have hl : (Instr.lookup 71 (.map (some w.heap.size)) (.string ⟨#[38]⟩) true).run Try.prog w1 = .ok (.tuple #[.func (.func 84) #[] #[], .bool true]) w1 := look_own ho keyedS Try.underlying71 (zeroSign _) (signK_of 38) signs_less.1 signs_less.2)
      | (go_at_call 50; refine (vok_any _ _ _).mono ?_; rintro e w' ⟨rfl, rfl⟩)
      | (go_at_call 84; refine (less_lit _ _ _ h _).mono ?_; rintro e w' ⟨rfl, rfl⟩))
    go_ret
    exact ⟨rfl, hg⟩

theorem signed_great (n a b : Int) (w : World) :
    Calls Try.prog 54 #[.string ⟨#[124]⟩, .int .i64 n, .int .i64 a, .int .i64 b] w fun e w' => e = .returned (.int .i64 (greatW n a b)) ∧ w.grownBy w' none := by
  cases h : twoB n a b
  · rw [greatW_f h]
    rcases twoB_no h with h1 | ⟨h1, h2⟩
    all_goals
      go_enter Try.func54, Try.ntmps54
      go_wp2_with (first
        | (go_at_call 69; refine (signs_any _).mono ?_; rintro e w1 ⟨rfl, ho, hg⟩; have hl : (Instr.lookup 71 (.map (some w.heap.size)) (.string ⟨#[124]⟩) true).run Try.prog w1 = .ok (.tuple #[.func (.func 85) #[] #[], .bool true]) w1 := look_own ho keyedS Try.underlying71 (zeroSign _) (signK_of 124) signs_great.1 signs_great.2)
        | (go_at_call 50; refine (vok_any _ _ _).mono ?_; rintro e w' ⟨rfl, rfl⟩))
      go_ret
      exact ⟨rfl, hg⟩
  · have h1 := (twoB_of h).1
    have h2 := (twoB_of h).2.1
    go_enter Try.func54, Try.ntmps54
    go_wp2_with (first
      | (go_at_call 69; refine (signs_any _).mono ?_; rintro e w1 ⟨rfl, ho, hg⟩; have hl : (Instr.lookup 71 (.map (some w.heap.size)) (.string ⟨#[124]⟩) true).run Try.prog w1 = .ok (.tuple #[.func (.func 85) #[] #[], .bool true]) w1 := look_own ho keyedS Try.underlying71 (zeroSign _) (signK_of 124) signs_great.1 signs_great.2)
      | (go_at_call 50; refine (vok_any _ _ _).mono ?_; rintro e w' ⟨rfl, rfl⟩)
      | (go_at_call 85; refine (great_lit _ _ _ h _).mono ?_; rintro e w' ⟨rfl, rfl⟩))
    go_ret
    exact ⟨rfl, hg⟩

def manyN (n a : Int) : Nat → Int
  | 0 => n
  | k + 1 => timesW n (manyN n a k) a
def manyW (n a t : Int) : Int := if vokB n a = true ∧ inB t 0 9 = true then manyN n a t.toNat else -1
theorem manyW_t {n a t : Int} (h : vokB n a = true) (ht : inB t 0 9 = true) : manyW n a t = manyN n a t.toNat := if_pos ⟨h, ht⟩
theorem manyW_f {n a t : Int} (h : vokB n a = false ∨ inB t 0 9 = false) : manyW n a t = -1 := if_neg (by rintro ⟨h1, h2⟩; rw [h1, h2] at h; simp at h)
theorem manyN_ok {n a : Int} (h : vokB n a = true) : ∀ k, vokB n (manyN n a k) = true
  | 0 => by have k := vokB_of h; exact vokB_t (by unfold manyN; omega)
  | k + 1 => by
    have kk := vokB_of h
    have t := timesW_ok (twoB_mk (manyN_ok h k) h)
    exact vokB_t (by unfold manyN; omega)

def ManyRel (n a t : Int) (w : World) (v i : Value) (wr : World) : Prop :=
  ∃ k : Nat, (k : Int) ≤ t ∧ i = .int .i64 k ∧ v = .int .i64 (manyN n a k) ∧ w.grownBy wr none

end Go.Proofs.Ythfikgaghinfbaa
