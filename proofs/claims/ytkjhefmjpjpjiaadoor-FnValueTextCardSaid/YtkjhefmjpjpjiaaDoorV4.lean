/-
  Facts on texts of values, and the walks of the laws FnSameOk and FnValueText.
-/
import Derived.Test.YtkjhefmjpjpjiaaDoorDraw5
import Derived.Test.YtkjhefmjpjpjiaaDoorSame
import Derived.Test.YtkjhefmjpjpjiaaDoorRead
namespace Go.Proofs.YtkjhefmjpjpjiaaDoor
open Go.RowKit

def textTest (n v m u : Int) : Bool := !(vokB n v && vokB m u) || (((vtext n v).data.toList == (vtext m u).data.toList) == sameB n v m u)
theorem text_table : allUpTo (fun n => allUpTo (fun v => allUpTo (fun m => allUpTo (fun u => textTest n v m u) 6) 6) 6) 6 = true := by decide +kernel

theorem text_same {n v m u : Int} (h1 : vokB n v = true) (h2 : vokB m u = true) : ((vtext n v).toList == (vtext m u).toList) = sameB n v m u := by
  have k1 := vokB_of h1
  have k2 := vokB_of h2
  rw [ByteArray.toList_eq, ByteArray.toList_eq]
  obtain ⟨N, rfl⟩ := Int.eq_ofNat_of_zero_le (show 0 ≤ n by omega)
  obtain ⟨V, rfl⟩ := Int.eq_ofNat_of_zero_le (show 0 ≤ v by omega)
  obtain ⟨M, rfl⟩ := Int.eq_ofNat_of_zero_le (show 0 ≤ m by omega)
  obtain ⟨U, rfl⟩ := Int.eq_ofNat_of_zero_le (show 0 ≤ u by omega)
  have t := allUpTo_of (allUpTo_of (allUpTo_of (allUpTo_of text_table N (by omega)) V (by omega)) M (by omega)) U (by omega)
  simp only [textTest, h1, h2, Bool.and_self, Bool.not_true, Bool.false_or] at t
  exact eq_of_beq t

theorem same_self {n v : Int} (h : vokB n v = true) : sameB n v n v = true := by unfold sameB; simp [h]
theorem same_turn (n v m u : Int) : sameB m u n v = sameB n v m u := by
  unfold sameB
  rw [show (u * n == v * m) = (v * m == u * n) from by rw [Bool.eq_iff_iff]; simp; exact ⟨Eq.symm, Eq.symm⟩]
  cases vokB n v <;> cases vokB m u <;> simp
theorem same_no {n v m u : Int} (h : vokB n v = false ∨ vokB m u = false) : sameB n v m u = false := by
  unfold sameB
  rcases h with h | h <;> simp [h]

theorem rd_back {n v : Int} (h : vokB n v = true) : rdO n (vtext n v) = some v.toNat := by
  have k := vokB_of h
  refine rdO_found (inB_t (by omega)) (by omega) (fun j hj => ?_) ?_
  · rw [text_same (vokB_t (by omega)) h]
    unfold sameB
    have hne : ((j : Int) * n == v * n) = false := by
      have h2 : (j : Int) * n ≠ v * n := fun e => by
        have := Int.eq_of_mul_eq_mul_right (by omega) e
        omega
      simpa using h2
    rw [hne]
    simp
  · rw [show ((v.toNat : Nat) : Int) = v from by omega]
    simp

theorem FnSameOk_walk (a0 : Option Addr) (len0 cap0 : Nat) (z0 : List Int) (w : World) (w0 : IsRow .u8 w a0 len0 cap0 z0) :
    Calls Tryd.prog 3 #[.slice a0 len0 cap0] w fun e w' => e = .returned (.bool true) ∧ Below w.heap.size w w' := by
  by_cases hl : (1048576 : Int) < (len0 : Int)
  · clear w0
    go_enter Tryd.func3, Tryd.ntmps3
    go_wp2_with fail
    go_ret
    exact ⟨rfl, Below.refl _ _⟩
  · go_enter Tryd.func3, Tryd.ntmps3
    go_wp2_with fail
    refine (DrawSameOk_any _ _ _ _ _ w0).mono ?_
    rintro e w1 ⟨n, v, m, u, rfl, hg⟩
    clear w0
    cases e1 : vokB n v
    · have hs := same_no (n := n) (v := v) (m := m) (u := u) (.inl e1)
      go_wp2_with (first | (go_at_call 9; refine (same_any _ _ _ _ _).mono ?_; rintro e w2 ⟨rfl, rfl⟩) | (go_at_call 10; refine (ssame_any _ _ _ _ _).mono ?_; rintro e w2 ⟨rfl, rfl⟩) | (go_at_call 11; refine (svok_any _ _ _).mono ?_; rintro e w2 ⟨rfl, rfl⟩) | (go_at_call 12; refine (alive_any _).mono ?_; rintro e w' ⟨rfl, rfl⟩))
      go_ret
      exact ⟨rfl, below_of hg⟩
    · cases e2 : vokB m u
      · have hs := same_no (n := n) (v := v) (m := m) (u := u) (.inr e2)
        go_wp2_with (first | (go_at_call 9; refine (same_any _ _ _ _ _).mono ?_; rintro e w2 ⟨rfl, rfl⟩) | (go_at_call 10; refine (ssame_any _ _ _ _ _).mono ?_; rintro e w2 ⟨rfl, rfl⟩) | (go_at_call 11; refine (svok_any _ _ _).mono ?_; rintro e w2 ⟨rfl, rfl⟩) | (go_at_call 12; refine (alive_any _).mono ?_; rintro e w' ⟨rfl, rfl⟩))
        go_ret
        exact ⟨rfl, below_of hg⟩
      · have t1 := text_same e1 e2
        have t2 := same_self e1
        have t3 := same_turn n v m u
        cases hs : sameB n v m u
        all_goals
          rw [hs] at t1 t3
          go_wp2_with (first | (go_at_call 9; refine (same_any _ _ _ _ _).mono ?_; rintro e w2 ⟨rfl, rfl⟩) | (go_at_call 10; refine (ssame_any _ _ _ _ _).mono ?_; rintro e w2 ⟨rfl, rfl⟩) | (go_at_call 11; refine (svok_any _ _ _).mono ?_; rintro e w2 ⟨rfl, rfl⟩))
          refine (text_any _ _ _).mono ?_
          rintro e w3 ⟨rfl, hg3⟩
          go_wp2_with fail
          refine (text_any _ _ _).mono ?_
          rintro e w4 ⟨rfl, hg4⟩
          go_wp2_with fail
          go_ret
          exact ⟨rfl, below_of (grownBy_trans (grownBy_trans hg hg3) hg4)⟩

theorem FnValueText_walk (a0 : Option Addr) (len0 cap0 : Nat) (z0 : List Int) (w : World) (w0 : IsRow .u8 w a0 len0 cap0 z0) :
    Calls Tryd.prog 4 #[.slice a0 len0 cap0] w fun e w' => e = .returned (.bool true) ∧ Below w.heap.size w w' := by
  by_cases hl : (1048576 : Int) < (len0 : Int)
  · clear w0
    go_enter Tryd.func4, Tryd.ntmps4
    go_wp2_with fail
    go_ret
    exact ⟨rfl, Below.refl _ _⟩
  · go_enter Tryd.func4, Tryd.ntmps4
    go_wp2_with fail
    refine (DrawValueText_any _ _ _ _ _ w0).mono ?_
    rintro e w1 ⟨n, v, rfl, hn1, hn2, hv1, hv2, hg⟩
    clear w0
    cases e1 : vokB n v
    · have ht := vtext_no e1
      go_wp2_with fail
      refine (text_any _ _ _).mono ?_
      rintro e w2 ⟨rfl, hg2⟩
      go_wp2_with fail
      refine (stext_any _ _ _).mono ?_
      rintro e w3 ⟨rfl, hg3⟩
      go_wp2_with (first | (go_at_call 16; refine (vok_any _ _ _).mono ?_; rintro e w' ⟨rfl, rfl⟩) | (go_at_call 12; refine (alive_any _).mono ?_; rintro e w' ⟨rfl, rfl⟩))
      go_ret
      exact ⟨rfl, below_of (grownBy_trans (grownBy_trans hg hg2) hg3)⟩
    · have ht := vtext_ne e1
      have hr := rd_back e1
      have k := vokB_of e1
      have r1 : rdI n (vtext n v) = v := by unfold rdI; rw [hr]; simp only; omega
      have r2 : rdB n (vtext n v) = true := by unfold rdB; rw [hr]; rfl
      clear hr
      go_wp2_with fail
      refine (text_any _ _ _).mono ?_
      rintro e w2 ⟨rfl, hg2⟩
      go_wp2_with fail
      refine (stext_any _ _ _).mono ?_
      rintro e w3 ⟨rfl, hg3⟩
      go_wp2_with (go_at_call 17; refine (read_any _ _ _).mono ?_; rintro e w4 ⟨rfl, hg4⟩)
      go_ret
      exact ⟨rfl, below_of (grownBy_trans (grownBy_trans (grownBy_trans hg hg2) hg3) hg4)⟩

end Go.Proofs.YtkjhefmjpjpjiaaDoor
