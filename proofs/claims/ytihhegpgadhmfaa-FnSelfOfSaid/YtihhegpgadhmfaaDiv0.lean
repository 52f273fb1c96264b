/-
  DivisibleOk of impl in one way.
-/
import Derived.Test.YtihhegpgadhmfaaDiv
namespace Go.Proofs.Ytihhegpgadhmfaa
open Go.RowKit

set_option maxHeartbeats 4000000 in
theorem div_0 (n : Int) (hn : inB n 1 6 = true) (w : World) :
    Calls Try.prog 26 #[.int .i64 0, .int .i64 n] w fun e w' => e = .returned (.bool (divB 0 n)) ∧ w.grownBy w' none := by
  have k1 := inB_of hn
  have hm := meth_0
  have hni := nilA_0
  have hk : inB 0 0 2 = true := rfl
  go_enter Try.func26, Try.ntmps26
  go_wp2_with (first | (go_at_call 39; refine (taking_0 _).mono ?_; rintro e w1 ⟨rfl, rfl⟩) | (go_at_call 47; refine (steps_any _ _).mono ?_; rintro e w' ⟨rfl, rfl⟩))
  go_loopw [23] (fun i wr => DRel 0 n w i wr) (fun i _ => (n + 1 - intOf i).toNat)
  case atStart => exact ⟨0, by omega, by omega, rfl, okTo_0 _ _, grownBy_refl _ _⟩
  case round =>
    obtain ⟨a, ha1, ha2, rfl, hok, hgr⟩ := hrel
    have Hok := Lib.hid hok
    clear hok
    by_cases hlt : a < n + 1
    · go_wp2
      go_loopg [28] (n + 1).toNat (fun g j wr => ERel 0 n a w g j wr)
      case atStart => exact ⟨0, by omega, by omega, by omega, rfl, Hok.out, hgr⟩
      case round =>
        obtain ⟨b, hgk, hb1, hb2, rfl, hok2, hgr2⟩ := hrel
        have Hok2 := Lib.hid hok2
        have Hgk := Lib.hid hgk
        clear hok2 hgk
        by_cases hltb : b < n + 1
        · have hwb : wayB 0 n a b = true := wayB_t (by omega) (by omega)
          have of := fbV_ok hwb
          by_cases hc : a ≤ b
          · go_upto_region 10 with (fail)
            go_cut [46] (fun v wx => v = .bool (togV 0 n a (fbV 0 n a b) != a) ∧ w.grownBy wx none)
            case first =>
              go_region_with (first
                | (go_at_call 43; refine (great_0 n a b _ hwb).mono ?_; rintro e w3 ⟨rfl, hg3⟩)
                | (go_at_call 72; refine (m_0 n a (fbV 0 n a b) (twoB_t (by omega)) _).mono ?_; rintro e w4 ⟨rfl, hg4⟩))
              all_goals
                go_wp2_with fail
                go_meet
                exact ⟨rfl, grownBy_trans (grownBy_trans (grownBy_drew hgr2) hg3) hg4⟩
            case rest =>
              obtain ⟨rfl, hgc⟩ := hcut
              by_cases hD : okD 0 n a b
              · have hq := okD_le hD hc
                go_wp2
                go_roundg (n + 1 - (b + 1)).toNat
                case measure => have := Hgk.out; omega
                case rel => exact ⟨b + 1, rfl, by omega, by omega, rfl, okTo_next Hok2.out hD, hgc⟩
              · have hq := noD_le hD hc
                have hz := Lib.hid (divB_not hwb hD)
                go_wp2
                go_ret
                exact ⟨by rw [hz.out]; rfl, hgc⟩
          · go_upto_region 10 with (fail)
            go_cut [46] (fun v wx => v = .bool (togV 0 n a (fbV 0 n a b) != b) ∧ w.grownBy wx none)
            case first =>
              go_region_with (first
                | (go_at_call 43; refine (great_0 n a b _ hwb).mono ?_; rintro e w3 ⟨rfl, hg3⟩)
                | (go_at_call 72; refine (m_0 n a (fbV 0 n a b) (twoB_t (by omega)) _).mono ?_; rintro e w4 ⟨rfl, hg4⟩))
              all_goals
                go_wp2_with fail
                go_meet
                exact ⟨rfl, grownBy_trans (grownBy_trans (grownBy_drew hgr2) hg3) hg4⟩
            case rest =>
              obtain ⟨rfl, hgc⟩ := hcut
              by_cases hD : okD 0 n a b
              · have hq := okD_gt hD hc
                go_wp2
                go_roundg (n + 1 - (b + 1)).toNat
                case measure => have := Hgk.out; omega
                case rel => exact ⟨b + 1, rfl, by omega, by omega, rfl, okTo_next Hok2.out hD, hgc⟩
              · have hq := noD_gt hD hc
                have hz := Lib.hid (divB_not hwb hD)
                go_wp2
                go_ret
                exact ⟨by rw [hz.out]; rfl, hgc⟩
        · have hb : b = n + 1 := by omega
          have hz := Lib.hid (okTo_row (hb ▸ Hok2.out))
          clear hb
          go_wp2
          go_roundw
          case rel => exact ⟨a + 1, by omega, by omega, rfl, hz.out, hgr2⟩
          case measure => simp [intOf]; omega
    · have ha : a = n + 1 := by omega
      have hz := Lib.hid (divB_all hk hn (ha ▸ Hok.out))
      clear ha
      go_wp2
      go_ret
      exact ⟨by rw [hz.out]; rfl, hgr⟩

end Go.Proofs.Ytihhegpgadhmfaa
