/-
  Contracts of ValueText, both. No condition.
-/
import Derived.Test.YtkjhefmjpjpjiaaDoorText
namespace Go.Proofs.YtkjhefmjpjpjiaaDoor
open Go.RowKit

def vtextOf (p q : Int) : ByteArray := if q = 1 then digS p else digS p ++ ⟨#[47]⟩ ++ digS q
def vtext (n v : Int) : ByteArray := if vokB n v then vtextOf (lowP n v) (lowW n v) else ⟨#[]⟩

theorem digS_size (k : Int) : (digS k).size = 1 := rfl

theorem lowSmall {n v : Int} (h : vokB n v = true) : 0 ≤ lowP n v ∧ lowP n v ≤ 6 ∧ 0 ≤ lowW n v ∧ lowW n v ≤ 6 := by
  have k := vokB_of h
  unfold lowP lowW fracP fracW
  rw [h]
  have a := Nat.div_le_self v.toNat (Nat.gcd v.toNat n.toNat)
  have b := Nat.div_le_self n.toNat (Nat.gcd v.toNat n.toNat)
  generalize v.toNat / Nat.gcd v.toNat n.toNat = x at *
  generalize n.toNat / Nat.gcd v.toNat n.toNat = y at *
  simp only [if_true]
  omega

theorem low_none {n v : Int} (h : vokB n v = false) : lowW n v = -1 ∧ lowP n v = -1 := by unfold lowW lowP; simp [h]

theorem text_any (n v : Int) (w : World) :
    Calls Tryd.prog 13 #[.int .i64 n, .int .i64 v] w (StrPost (vtext n v) w) := by
  cases e1 : vokB n v
  · have ht : Hid (⟨#[]⟩ = vtext n v) := by unfold Hid vtext; simp [e1]
    go_enter Tryd.func13, Tryd.ntmps13
    go_wp2_with (go_at_call 26; refine (low_any _ _ _).mono ?_; rintro e w1 ⟨rfl, hg1⟩)
    go_ret
    exact ⟨ret_str ht.out, hg1⟩
  · obtain ⟨p0, p1, q0, q1⟩ := lowSmall e1
    have ht : Hid (vtextOf (lowP n v) (lowW n v) = vtext n v) := by unfold Hid vtext; simp [e1]
    have hlow := low_any n v
    unfold LowPost at hlow
    generalize lowP n v = p at *
    generalize lowW n v = q at *
    have Hlow := Lib.hid hlow
    clear hlow
    by_cases hq : q = 1
    · subst hq
      have hv : Hid (vtextOf p 1 = digS p) := by unfold Hid vtextOf; simp
      go_enter Tryd.func13, Tryd.ntmps13
      go_wp2_with (first | (go_at_call 26; refine (Hlow.out _).mono ?_; rintro e w1 ⟨rfl, hg1⟩) | (go_at_call 27; refine (itoa_any p ⟨p0, p1⟩ _).mono ?_; rintro e w2 ⟨rfl, rfl⟩))
      go_ret
      exact ⟨ret_str (hv.out.symm.trans ht.out), hg1⟩
    · have hb : (q == 1) = false := by simpa using hq
      have hv : Hid (vtextOf p q = digS p ++ ⟨#[47]⟩ ++ digS q) := by unfold Hid vtextOf; rw [if_neg hq]
      go_enter Tryd.func13, Tryd.ntmps13
      go_wp2_with (go_at_call 26; refine (Hlow.out _).mono ?_; rintro e w1 ⟨rfl, hg1⟩)
      refine (itoa_any p ⟨p0, p1⟩ _).mono ?_
      rintro e w2 ⟨rfl, rfl⟩
      go_wp2_with fail
      refine (itoa_any q ⟨q0, q1⟩ _).mono ?_
      rintro e w2 ⟨rfl, rfl⟩
      go_wp2_with fail
      go_ret
      exact ⟨ret_str (hv.out.symm.trans ht.out), hg1⟩

theorem stext_any (n v : Int) (w : World) :
    Calls Tryd.prog 15 #[.int .i64 n, .int .i64 v] w (StrPost (vtext n v) w) := by
  cases e1 : vokB n v
  · have ht : Hid (⟨#[]⟩ = vtext n v) := by unfold Hid vtext; simp [e1]
    go_enter Tryd.func15, Tryd.ntmps15
    go_wp2_with (go_at_call 29; refine (slow_any _ _ _).mono ?_; rintro e w1 ⟨rfl, hg1⟩)
    go_ret
    exact ⟨ret_str ht.out, hg1⟩
  · obtain ⟨p0, p1, q0, q1⟩ := lowSmall e1
    have ht : Hid (vtextOf (lowP n v) (lowW n v) = vtext n v) := by unfold Hid vtext; simp [e1]
    have hlow := slow_any n v
    unfold LowPost at hlow
    generalize lowP n v = p at *
    generalize lowW n v = q at *
    have Hlow := Lib.hid hlow
    clear hlow
    by_cases hq : q = 1
    · subst hq
      have hv : Hid (vtextOf p 1 = digS p) := by unfold Hid vtextOf; simp
      go_enter Tryd.func15, Tryd.ntmps15
      go_wp2_with (first | (go_at_call 29; refine (Hlow.out _).mono ?_; rintro e w1 ⟨rfl, hg1⟩) | (go_at_call 30; refine (number_any p ⟨p0, p1⟩ _).mono ?_; rintro e w2 ⟨rfl, hg2⟩))
      go_ret
      exact ⟨ret_str (hv.out.symm.trans ht.out), grownBy_trans hg1 hg2⟩
    · have hb : (q == 1) = false := by simpa using hq
      have hv : Hid (vtextOf p q = digS p ++ ⟨#[47]⟩ ++ digS q) := by unfold Hid vtextOf; rw [if_neg hq]
      go_enter Tryd.func15, Tryd.ntmps15
      go_wp2_with (go_at_call 29; refine (Hlow.out _).mono ?_; rintro e w1 ⟨rfl, hg1⟩)
      refine (number_any p ⟨p0, p1⟩ _).mono ?_
      rintro e w2 ⟨rfl, hg2⟩
      go_wp2_with fail
      refine (number_any q ⟨q0, q1⟩ _).mono ?_
      rintro e w3 ⟨rfl, hg3⟩
      go_wp2_with fail
      go_ret
      exact ⟨ret_str (hv.out.symm.trans ht.out), grownBy_trans (grownBy_trans hg1 hg2) hg3⟩

end Go.Proofs.YtkjhefmjpjpjiaaDoor
