/-
  The draws of chapter 7, one for each law.
-/
import Derived.Test.YtdofeahbgodopaaPDraw
namespace Go.Proofs.Ytdofeahbgodopaa
open Go.RowKit

def LpPost (w : World) (e : Ending) (w' : World) : Prop :=
  ∃ (ss : List ByteArray) (a : Option Addr) (cap : Nat), e = .returned (.slice a ss.length cap) ∧ ss.length ≤ 4 ∧ ss.length ≤ cap ∧ (∀ s ∈ ss, s.size ≤ 60) ∧ StrsAt w' a ss ∧ w.grownBy w' none

theorem DrawPremisesOk_any (a : Option Addr) (len cap : Nat) (zs : List Int) (w : World) (h : IsRow .u8 w a len cap zs) :
    Calls Try.prog 13 #[.slice a len cap] w (LpPost w) := by
  go_enter Try.func13, Try.ntmps13
  go_wp2_with fail
  refine (open_draw a len cap zs _ h).mono ?_
  rintro e w1 ⟨rfl, hr1, hg1⟩
  clear h
  go_wp2_with fail
  refine (premises_draw _ _ _ _ hr1 (by omega) (by omega) (by omega)).mono ?_
  rintro e w2 ⟨ss, b, c, rfl, h1, hcap, h2, h3, h4, hr2, hg2⟩
  have H2 := Lib.hid h2
  have H3 := Lib.hid h3
  clear h2 h3 h4
  go_wp2_with fail
  go_ret
  exact ⟨ss, b, c, rfl, h1, hcap, H2.out, H3.out, grownBy_own hg1 hg2⟩

def NpPost (w : World) (e : Ending) (w' : World) : Prop :=
  ∃ (n : Int) (ss : List ByteArray) (a : Option Addr) (cap : Nat), e = .returned (.tuple #[.int .i64 n, .slice a ss.length cap]) ∧ -1 ≤ n ∧ n ≤ 7 ∧ ss.length ≤ 4 ∧ ss.length ≤ cap ∧ (∀ s ∈ ss, s.size ≤ 60) ∧ StrsAt w' a ss ∧ w.grownBy w' none

theorem DrawCountTrue_any (a : Option Addr) (len cap : Nat) (zs : List Int) (w : World) (h : IsRow .u8 w a len cap zs) :
    Calls Try.prog 22 #[.slice a len cap] w (NpPost w) := by
  go_enter Try.func22, Try.ntmps22
  go_wp2_with fail
  refine (open_draw a len cap zs _ h).mono ?_
  rintro e w1 ⟨rfl, hr1, hg1⟩
  clear h
  go_wp2_with fail
  refine (steps_draw _ _ _ _ hr1 (by omega) (by omega) (by omega)).mono ?_
  rintro e w2 ⟨n, rfl, n1, n2, hr2, hg2⟩
  go_wp2_with fail
  refine (premises_draw _ _ _ _ hr2 (by omega) (by omega) (by omega)).mono ?_
  rintro e w3 ⟨ss, b, c, rfl, h1, hcap, h2, h3, h4, hr3, hg3⟩
  have H2 := Lib.hid h2
  have H3 := Lib.hid h3
  clear h2 h3 h4
  go_wp2_with fail
  go_ret2
  exact ⟨n, ss, b, c, rfl, n1, n2, h1, hcap, H2.out, H3.out, grownBy_own (grownBy_own hg1 hg2) hg3⟩

def SkPost (w : World) (e : Ending) (w' : World) : Prop :=
  ∃ (s : ByteArray) (k : Int), e = .returned (.tuple #[.string s, .int .i64 k]) ∧ s.size ≤ 60 ∧ 0 ≤ k ∧ k ≤ 10 ∧ w.grownBy w' none

theorem DrawPowerText_any (a : Option Addr) (len cap : Nat) (zs : List Int) (w : World) (h : IsRow .u8 w a len cap zs) :
    Calls Try.prog 25 #[.slice a len cap] w (SkPost w) := by
  go_enter Try.func25, Try.ntmps25
  go_wp2_with fail
  refine (open_draw a len cap zs _ h).mono ?_
  rintro e w1 ⟨rfl, hr1, hg1⟩
  clear h
  go_wp2_with fail
  refine (fo_any (D := 1) (by omega) _ _ _ hr1 (by omega)).mono ?_
  rintro e w2 ⟨s, rfl, hs1, hs2, hr2, hg2⟩
  go_wp2_with fail
  refine (pick_any _ _ _ _ hr2 (by omega)).mono ?_
  rintro e w3 ⟨j, rfl, hj0, hj1, hr3, hg3⟩
  go_wp2_with fail
  refine (pick_any _ _ _ _ hr3 (by omega)).mono ?_
  rintro e w4 ⟨k, rfl, hk0, hk1, hr4, hg4⟩
  obtain ⟨q, hq⟩ : ∃ q : Int, k.tdiv 19 = q := ⟨_, rfl⟩
  have hq2 : 0 ≤ q ∧ q ≤ 1 := by
    rw [← hq]
    obtain ⟨K, rfl⟩ := Int.eq_ofNat_of_zero_le hk0
    rw [show ((K : Int).tdiv 19) = ((K / 19 : Nat) : Int) from rfl]
    omega
  have z1 : IntKind.i64.wrap q = q := IntWalk.i64_in _ (by omega)
  obtain ⟨q1, q2⟩ := hq2
  go_wp2_with fail
  go_ret2
  exact ⟨s, _, rfl, by omega, by omega, by omega, grownBy_own (grownBy_own (grownBy_own hg1 hg2) hg3) hg4⟩

def NstPost (w : World) (e : Ending) (w' : World) : Prop :=
  ∃ (n : Int) (s t : ByteArray), e = .returned (.tuple #[.int .i64 n, .string s, .string t]) ∧ -1 ≤ n ∧ n ≤ 7 ∧ s.size ≤ 60 ∧ t.size ≤ 60 ∧ w.grownBy w' none

theorem DrawDeducedOf_any (a : Option Addr) (len cap : Nat) (zs : List Int) (w : World) (h : IsRow .u8 w a len cap zs) :
    Calls Try.prog 31 #[.slice a len cap] w (NstPost w) := by
  go_enter Try.func31, Try.ntmps31
  go_wp2_with fail
  refine (open_draw a len cap zs _ h).mono ?_
  rintro e w1 ⟨rfl, hr1, hg1⟩
  clear h
  go_wp2_with fail
  refine (steps_draw _ _ _ _ hr1 (by omega) (by omega) (by omega)).mono ?_
  rintro e w2 ⟨n, rfl, n1, n2, hr2, hg2⟩
  go_wp2_with fail
  refine (fo_any (D := 1) (by omega) _ _ _ hr2 (by omega)).mono ?_
  rintro e w3 ⟨s, rfl, hs1, hs2, hr3, hg3⟩
  go_wp2_with fail
  refine (formed_draw _ _ _ _ hr3 (by omega) (by omega) (by omega)).mono ?_
  rintro e w4 ⟨t, rfl, ht, hr4, hg4⟩
  go_wp2_with fail
  go_ret3
  exact ⟨n, s, t, rfl, n1, n2, by omega, ht, grownBy_own (grownBy_own (grownBy_own hg1 hg2) hg3) hg4⟩

def NlsPost (w : World) (e : Ending) (w' : World) : Prop :=
  ∃ (n : Int) (ss : List ByteArray) (a : Option Addr) (cap : Nat) (s : ByteArray), e = .returned (.tuple #[.int .i64 n, .slice a ss.length cap, .string s]) ∧ -1 ≤ n ∧ n ≤ 7 ∧ ss.length ≤ 4 ∧ ss.length ≤ cap ∧ (∀ s ∈ ss, s.size ≤ 60) ∧ StrsAt w' a ss ∧ s.size ≤ 64 ∧ w.grownBy w' none

theorem lit3 (s : ByteArray) (hs : s.size ≤ 60) (k : Nat) (h : k < 3) : ∃ u : ByteArray, (#[.string s, .string (⟨#[40]⟩ ++ s ++ ⟨#[124, 97, 41]⟩), .string (⟨#[40, 98, 62]⟩ ++ s ++ ⟨#[41]⟩)] : Array Value)[k]? = some (.string u) ∧ u.size ≤ 64 := by
  match k, h with
  | 0, _ => exact ⟨_, rfl, by omega⟩
  | 1, _ => exact ⟨_, rfl, by simp only [ByteArray.size_append]; show 1 + s.size + 3 ≤ 64; omega⟩
  | 2, _ => exact ⟨_, rfl, by simp only [ByteArray.size_append]; show 3 + s.size + 1 ≤ 64; omega⟩

set_option maxRecDepth 100000 in
set_option maxHeartbeats 4000000 in
theorem DrawFollowsFrom_any (a : Option Addr) (len cap : Nat) (zs : List Int) (w : World) (h : IsRow .u8 w a len cap zs) :
    Calls Try.prog 17 #[.slice a len cap] w (NlsPost w) := by
  have hm : maxLen = 9223372036854775807 := rfl
  go_enter Try.func17, Try.ntmps17
  go_wp2_with fail
  refine (open_draw a len cap zs _ h).mono ?_
  rintro e w1 ⟨rfl, hr1, hg1⟩
  clear h
  go_wp2_with fail
  refine (steps_draw _ _ _ _ hr1 (by omega) (by omega) (by omega)).mono ?_
  rintro e w2 ⟨n, rfl, n1, n2, hr2, hg2⟩
  go_wp2_with fail
  refine (premises_draw _ _ _ _ hr2 (by omega) (by omega) (by omega)).mono ?_
  rintro e w3 ⟨ss, b, c, rfl, h1, hcap, h2, h3, h4, hr3, hg3⟩
  replace hg3 := grownBy_own (grownBy_own hg1 hg2) hg3
  clear hg1 hg2 hr1 hr2
  have H2 := Lib.hid h2
  have H3 := Lib.hid h3
  have H4 := Lib.hid h4
  clear h2 h3 h4
  by_cases h0 : 0 < ss.length
  · go_wp2_with fail
    refine (pick_any _ _ _ _ hr3 (by omega)).mono ?_
    rintro e w4 ⟨k, rfl, hk0, hk1, hr4, hg4⟩
    have H3' : Hid (StrsAt w4 b ss) := H3.out.kept hg4 (fun x hx => by have := H4.out x hx; simp; omega)
    replace hg4 := grownBy_own hg3 hg4
    obtain rfl | rfl : k = 0 ∨ k = 1 := by omega
    · rcases H3'.out.2 with e0 | ⟨bb, off, rfl, hbb, hc⟩
      · rw [e0] at h0; simp at h0
      have c0 := hc 0 h0
      rw [Nat.add_zero] at c0
      have hs0 := H2.out (ss.getD 0 nilS) (by rw [List.getD_eq_getElem?_getD, List.getElem?_eq_getElem h0, Option.getD_some]; exact List.getElem_mem h0)
      have hrb : w.heap.size < bb := H4.out _ rfl
      have hlt4 := hr4.lt
      clear hc hr3
      generalize ss.getD 0 nilS = s0 at *
      have c1 : w4.drew.cell? ⟨bb, off, none⟩ = some (.string s0) := c0
      have f1 : ¬ (9223372036854775807 < 1 + s0.size) := by omega
      have f2 : ¬ (9223372036854775807 < 1 + s0.size + 3) := by omega
      have f3 : ¬ (9223372036854775807 < 3 + s0.size) := by omega
      have f4 : ¬ (9223372036854775807 < 3 + s0.size + 1) := by omega
      go_wp2_with fail
      go_region_with (go_at_call 43; refine (pick_any _ _ _ _ (by first | exact hr4.drewn | exact (hr4.alloc _).drewn | exact hr4.drewn.alloc _) (by omega)).mono ?_; rintro e wb ⟨kp, rfl, hkp, hlp, hrp, hgp⟩; obtain ⟨kp, rfl⟩ := Int.eq_ofNat_of_zero_le hkp; obtain ⟨u, hC, hu⟩ := lit3 s0 hs0 kp (by omega); have hltp : (kp : Int) < 3 := (by omega); have hmp := @cell_made wb _ 9 kp _ hC; have hxb : wb.cell? ⟨bb, off, none⟩ = some (.string s0) := (by first | exact cell_stays c1 hgp hrb | exact cell_stays (cell_grown c0 (World.grownBy_alloc _ _ none)) hgp hrb | exact cell_stays (cell_grown c1 (World.grownBy_alloc _ _ none)) hgp hrb); first | have hx := cell_kept (grownBy_undrew hgp) hlt4 hC | have hx := cell_kept hgp (show w.heap.size < w4.drew.heap.size from hlt4) hC | skip)
      all_goals
        go_wp2_with fail
        go_ret3
        first
          | exact ⟨n, ss, _, c, u, rfl, n1, n2, h1, hcap, H2.out, H3'.out.kept (grownBy_trans (World.grownBy_alloc _ _ (some w.heap.size)) (grownBy_undrew hgp)) (fun x hx => by have := H4.out x hx; simp; omega), hu, grownBy_own hg4 (grownBy_trans (World.grownBy_alloc _ _ (some w.heap.size)) (grownBy_undrew hgp))⟩
          | exact ⟨n, ss, _, c, u, rfl, n1, n2, h1, hcap, H2.out, (H3'.out.kept (grownBy_undrew hgp) (fun x hx => by have := H4.out x hx; simp; omega)).grown (World.grownBy_alloc _ _ none), hu, grownBy_own hg4 (grownBy_trans (grownBy_undrew hgp) (World.grownBy_alloc _ _ (some w.heap.size)))⟩
    · go_wp2_with fail
      refine (true_draw _ _ _ _ hr4 (by omega) (by omega) (by omega)).mono ?_
      rintro e w5 ⟨s, rfl, hs, hr5, hg5⟩
      go_wp2_with fail
      go_ret3
      exact ⟨n, ss, b, c, s, rfl, n1, n2, h1, hcap, H2.out, H3'.out.kept hg5 (fun x hx => by have := H4.out x hx; simp; omega), by omega, grownBy_own hg4 hg5⟩
  · go_wp2_with fail
    refine (true_draw _ _ _ _ hr3 (by omega) (by omega) (by omega)).mono ?_
    rintro e w5 ⟨s, rfl, hs, hr5, hg5⟩
    go_wp2_with fail
    go_ret3
    exact ⟨n, ss, b, c, s, rfl, n1, n2, h1, hcap, H2.out, H3.out.kept hg5 (fun x hx => by have := H4.out x hx; simp; omega), by omega, grownBy_own hg3 hg5⟩

end Go.Proofs.Ytdofeahbgodopaa
