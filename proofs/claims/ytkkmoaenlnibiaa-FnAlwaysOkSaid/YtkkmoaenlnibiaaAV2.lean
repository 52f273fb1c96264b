/-
  The walk of the law FnAlwaysOk.
-/
import Derived.Test.YtkkmoaenlnibiaaAIs
namespace Go.Proofs.Ytkkmoaenlnibiaa
open Go.RowKit

theorem wide_bl {s : ByteArray} {t : Tr} (h : bl s = t.txt) : bl ((⟨#[40]⟩ : ByteArray) ++ s ++ ⟨#[124, 97, 41]⟩) = (Tr.bin .great t (.lt .la)).txt := by
  rw [bl_app, bl_app, h]
  show [40] ++ t.txt ++ [124, 97, 41] = 40 :: (t.txt ++ 124 :: ([97] ++ [41]))
  simp
theorem wboth_bl {s : ByteArray} {t : Tr} (h : bl s = t.txt) : bl ((⟨#[40]⟩ : ByteArray) ++ s ++ ⟨#[62]⟩ ++ ((⟨#[40]⟩ : ByteArray) ++ s ++ ⟨#[124, 97, 41]⟩) ++ ⟨#[41]⟩) = (Tr.bin .fol t (.bin .great t (.lt .la))).txt := by
  rw [bl_app, bl_app, bl_app, bl_app, wide_bl h, h]
  show [40] ++ t.txt ++ [62] ++ (Tr.bin .great t (.lt .la)).txt ++ [41] = 40 :: (t.txt ++ 62 :: ((Tr.bin .great t (.lt .la)).txt ++ [41]))
  simp
theorem wide_len (t : Tr) : (Tr.bin .great t (.lt .la)).txt.length = t.txt.length + 4 := by rw [bin_len]; rfl

set_option maxRecDepth 100000 in
set_option maxHeartbeats 2000000 in
theorem FnAlwaysOk_walk (a0 : Option Addr) (len0 cap0 : Nat) (z0 : List Int) (w : World) (w0 : IsRow .u8 w a0 len0 cap0 z0) :
    Calls Try.prog 4 #[.slice a0 len0 cap0] w fun e w' => e = .returned (.bool true) ∧ Below w.heap.size w w' := by
  by_cases hl : (1048576 : Int) < (len0 : Int)
  · clear w0
    go_enter Try.func4, Try.ntmps4
    go_wp2_with fail
    go_ret
    exact ⟨rfl, Below.refl _ _⟩
  · go_enter Try.func4, Try.ntmps4
    go_wp2_with fail
    refine (DrawAlwaysOk_any _ _ _ _ _ w0).mono ?_
    rintro e w1 ⟨n, s, rfl, hs, n1, n2, g1⟩
    clear w0
    have ml : maxLen = 9223372036854775807 := rfl
    cases ha : alwB n (bl s)
    · have c1 := always_is n s ha
      have c2 := salways_is n s ha
      clear ha
      go_wp2_with fail
      refine (c1 _).mono ?_
      rintro e w2 ⟨rfl, g2⟩
      clear c1
      go_wp2_with fail
      refine (c2 _).mono ?_
      rintro e w3 ⟨rfl, g3⟩
      clear c2
      go_wp2_with (go_at_call 18; refine (alive_any _).mono ?_; rintro e w' ⟨rfl, rfl⟩)
      go_ret
      exact ⟨rfl, below_of (grownBy_trans g1 (grownBy_trans g2 g3))⟩
    · obtain ⟨N, t, rfl, hN, ho, hT⟩ := alw_pos ha
      have c1 := always_is N s ha
      have c2 := salways_is N s ha
      have cd : ∀ d : Nat, 1 ≤ d → N % d = 0 → ∀ w : World, Calls Try.prog 22 #[.int .i64 d, .string s] w fun e w' => e = .returned (.bool true) ∧ w.grownBy w' none := fun d hd hm => always_is d s (alwB_div hd hm ha)
      obtain ⟨ht, htl⟩ := fOf_some ho
      have hsz : s.size = t.txt.length := by rw [bl_size, ht]
      have hi : inB (N : Int) 1 6 = true := inB_nat hN
      have c5 : t.txt.length + (t.txt.length + 4) + 3 ≤ 60 → ∀ w : World, Calls Try.prog 22 #[.int .i64 N, .string ((⟨#[40]⟩ : ByteArray) ++ s ++ ⟨#[124, 97, 41]⟩)] w fun e w' => e = .returned (.bool true) ∧ w.grownBy w' none := fun hb =>
        always_is N _ (by rw [wide_bl ht, alwB_t (fOf_txt (by rw [wide_len]; omega)) hi]; exact great_all hN hT _)
      have c4 : t.txt.length + (t.txt.length + 4) + 3 ≤ 60 → ∀ w : World, Calls Try.prog 22 #[.int .i64 N, .string ((⟨#[40]⟩ : ByteArray) ++ s ++ ⟨#[62]⟩ ++ ((⟨#[40]⟩ : ByteArray) ++ s ++ ⟨#[124, 97, 41]⟩) ++ ⟨#[41]⟩)] w fun e w' => e = .returned (.bool true) ∧ w.grownBy w' none := fun hb =>
        always_is N _ (by rw [wboth_bl ht, alwB_t (fOf_txt (by rw [bin_len, wide_len]; omega)) hi]; exact fol_all hN t (great_all hN hT _))
      have C4 := Lib.hid c4
      have C5 := Lib.hid c5
      have CD := Lib.hid cd
      clear ho hi ha hT ht c4 c5 cd
      generalize t.txt.length = q at *
      subst hsz
      go_wp2_with fail
      refine (c1 _).mono ?_
      rintro e w2 ⟨rfl, g2⟩
      clear c1
      go_wp2_with fail
      refine (c2 _).mono ?_
      rintro e w3 ⟨rfl, g3⟩
      clear c2
      go_wp2_with fail
      have gA := grownBy_trans g1 (grownBy_trans g2 g3)
      clear g1 g2 g3
      go_loopw [6] (fun i wr => ∃ d : Nat, 1 ≤ d ∧ d ≤ N + 1 ∧ i = .int .i64 d ∧ w.grownBy wr none) (fun i _ => N + 1 - (intOf i).toNat)
      case atStart => exact ⟨1, by omega, by omega, rfl, gA⟩
      case round =>
        obtain ⟨d, hd0, hd, rfl, hgr⟩ := hrel
        by_cases hlt : d ≤ N
        · have z0 : ¬ ((d : Int) = 0) := by omega
          by_cases hm : N % d = 0
          · have gm : ((N : Int) % (d : Int) == 0) = true := by
              have : (N : Int) % (d : Int) = ((N % d : Nat) : Int) := rfl
              rw [this, hm]; rfl
            have cq := CD.out d hd0 hm
            clear hm
            go_wp2_with fail
            refine (cq _).mono ?_
            rintro e w4 ⟨rfl, g4⟩
            clear cq
            go_wp2_with fail
            go_roundw
            case rel => exact ⟨d + 1, by omega, by omega, by go_num, grownBy_trans hgr g4⟩
            case measure => simp [intOf]; omega
          · have gm : ((N : Int) % (d : Int) == 0) = false := by
              have : (N : Int) % (d : Int) = ((N % d : Nat) : Int) := rfl
              rw [this, beq_eq_false_iff_ne]; omega
            clear hm
            go_wp2_with fail
            go_roundw
            case rel => exact ⟨d + 1, by omega, by omega, by go_num, hgr⟩
            case measure => simp [intOf]; omega
        · obtain rfl : d = N + 1 := by omega
          by_cases hb : s.size + (s.size + 4) + 3 ≤ 60
          · have hd : decide ((60 : Int) < (s.size : Int) + (1 + (s.size : Int) + 3) + 3) = false := decide_eq_false (by omega)
            have c4 := C4.out hb
            have c5 := C5.out hb
            clear hb
            go_wp2_with fail
            refine (c4 _).mono ?_
            rintro e w4 ⟨rfl, g4⟩
            clear c4
            go_wp2_with fail
            refine (c5 _).mono ?_
            rintro e w5 ⟨rfl, g5⟩
            clear c5
            go_wp2_with fail
            go_ret
            exact ⟨rfl, below_of (grownBy_trans hgr (grownBy_trans g4 g5))⟩
          · have hd : decide ((60 : Int) < (s.size : Int) + (1 + (s.size : Int) + 3) + 3) = true := decide_eq_true (by omega)
            clear hb
            go_wp2_with fail
            go_ret
            exact ⟨rfl, below_of hgr⟩

end Go.Proofs.Ytkkmoaenlnibiaa
