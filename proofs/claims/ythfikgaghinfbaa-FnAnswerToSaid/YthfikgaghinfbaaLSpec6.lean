/-
  The model's l11Next.
-/
import Derived.Test.YthfikgaghinfbaaLSpec5
namespace Go.Proofs.Ythfikgaghinfbaa
open Go.RowKit

/-- After both answers it is enough. -/
def bothB (N L q c s : Nat) : Bool := svB N L q (ansN N L c s true) && svB N L q (ansN N L c s false)
def anyB (N L q c S : Nat) : Bool := svB N L q c || (List.range S).any (bothB N L q c)
theorem any_0 (N L q c : Nat) : anyB N L q c 0 = svB N L q c := by simp [anyB]
theorem any_step (N L q c S : Nat) : anyB N L q c (S + 1) = (anyB N L q c S || bothB N L q c S) := by
  unfold anyB
  rw [List.range_succ, List.any_append]
  simp [Bool.or_assoc]
theorem any_up {N L q c S T : Nat} (h : S ≤ T) (hs : anyB N L q c S = true) : anyB N L q c T = true := by
  induction h with
  | refl => exact hs
  | step _ ih => rw [any_step, ih]; rfl
theorem any_all {N L q c : Nat} (hN : 1 ≤ N ∧ N ≤ 3) (hL : 1 ≤ L ∧ L ≤ 3) (hc : c < (N + 1) ^ L) (hq : q ≤ 12) : svB N L (q + 1) c = anyB N L q c (2 ^ L) := by
  have h := allG_at sol_next hN hL hc
  rw [List.all_eq_true] at h
  exact beq_iff_eq.1 (h q (List.mem_range.2 (by omega)))
theorem ans_lt_at {N L c s : Nat} (hN : 1 ≤ N ∧ N ≤ 3) (hL : 1 ≤ L ∧ L ≤ 3) (hc : c < (N + 1) ^ L) (hs : s < 2 ^ L) (y : Bool) : ansN N L c s y < (N + 1) ^ L := by
  have h := allG_at ans_lt hN hL hc
  rw [List.all_eq_true] at h
  have h := h s (List.mem_range.2 hs)
  rw [Bool.and_eq_true, decide_eq_true_eq, decide_eq_true_eq] at h
  cases y
  · exact h.2
  · exact h.1
def oneI (b : Bool) : Int := if b = true then 1 else 0
def NxRel (N L q c : Nat) (w : World) (v i : Value) (wr : World) : Prop := ∃ S : Nat, S ≤ 2 ^ L ∧ v = .int .i64 (oneI (anyB N L q c S)) ∧ i = .int .i64 S ∧ w.grownBy wr none

set_option maxHeartbeats 8000000 in
theorem snext_any (N L q : Nat) (hN : 1 ≤ N ∧ N ≤ 3) (hL : 1 ≤ L ∧ L ≤ 3) (hq : q ≤ 12) (a : Option Addr) (cap : Nat) (zs : List Int) (hz : zs = svL N L q (pw N L)) (w : World) (h : IntsAt w a zs) :
    Calls Try.prog 61 #[.int .i64 N, .int .i64 L, .slice a zs.length cap] w (IntsPost (svL N L (q + 1) (pw N L)) w) := by
  obtain ⟨i0, hi, hz0, hz1, hz2⟩ := info_parts infoInt
  have HN := Lib.hid hN
  have HL := Lib.hid hL
  have HQ := Lib.hid hq
  have H := Lib.hid h
  have b1 := (pw_le (N := N) (k := L) hN.2 hL.2).2
  obtain ⟨A, hA⟩ : ∃ A, pw N L = A := ⟨_, rfl⟩
  have HA := Lib.hid hA
  have hzl : Hid (zs.length = A) := by unfold Hid; rw [hz, svL_len]; exact hA
  have hzat : Hid (∀ c, c < A → zs.getD c 0 = svI N L q c) := fun c hc => by rw [hz]; exact svL_at N L q _ (by omega)
  have tp := two_pow hL
  obtain ⟨P, hP⟩ : ∃ P : Int, 2 ^ L = P := ⟨_, rfl⟩
  have HP := Lib.hid hP
  rw [hP] at tp
  have hsh : wrap64 (2 ^ L) = P := by rw [hP]; unfold wrap64; omega
  have hsh' : IntKind.i64.wrap (2 ^ L) = P := by rw [hP]; exact IntWalk.i64_in _ (by omega)
  have hl0 : (0 : Int) ≤ (L : Int) := by omega
  have hl3 : (L : Int) ≤ 3 := by omega
  have hz64 : zs.length ≤ 64 := by rw [hzl.out, ← hA]; exact b1
  rw [hA] at b1
  clear hN hL hq h hz hA hP
  go_enter Try.func61, Try.ntmps61
  go_wp2
  go_loopw [7, 8] (fun v i wr => FstRel N L (q + 1) A w v i wr) (fun _ i _ => A - (intOf i).toNat)
  case atStart => exact ⟨0, by omega, rfl, _, 0, rfl, OwnI.made w, World.grownBy_alloc _ _ _⟩
  case round =>
    obtain ⟨c, hc, rfl, b, cb, rfl, hown, hgr⟩ := hrel
    have hlen : (svL N L (q + 1) c).length ≤ 64 := by rw [svL_len]; omega
    by_cases hca : c < A
    · have HC : Hid (c < (N + 1) ^ L) := by unfold Hid; rw [← show pw N L = A from HA.out] at hca; exact hca
      have cr := slrow_any N L c HN.out HL.out (by omega) wr
      have hcz : (c : Int) < (zs.length : Int) := by have := hzl.out; omega
      have hx0 := hzat.out c hca
      rcases H.out.2 with h0 | ⟨bx, ox, rfl, hbx, hcx⟩
      · have := hzl.out; rw [h0] at this; simp at this; omega
      have hc0 := hgr.cell (hcx c (by have := hzl.out; omega)) (by simp)
      rw [hx0] at hc0
      have e0 : svI N L q c = oneI (anyB N L q c 0) := by rw [any_0]; rfl
      rw [e0] at hc0
      have HO := Lib.hid hown
      have HG := Lib.hid hgr
      have HCA := Lib.hid hca
      have HCX := Lib.hid hcx
      clear hown hgr hca hc hx0 e0 hcx hbx
      obtain ⟨x0, hx0⟩ : ∃ x, oneI (anyB N L q c 0) = x := ⟨_, rfl⟩
      have HX0 := Lib.hid hx0
      rw [hx0] at hc0
      clear hx0
      go_wp2_with fail
      refine cr.mono ?_
      rintro e w3 ⟨rb, rc, rfl, hR, g3⟩
      clear cr
      have HR := Lib.hid hR
      have HO3 := Lib.hid (HO.out.kept g3)
      have HG3 := Lib.hid (grownBy_trans HG.out g3)
      have hgame := rowZ_game (N := N) (L := L) (c := c) HN.out HL.out
      have hcode := rowZ_code (N := N) (L := L) (c := c) HN.out HL.out HC.out
      have hrl0 := rowZ_len N L c
      clear hR g3 HO HG hc0
      obtain ⟨row, hrow⟩ : ∃ row, rowZ N L c = row := ⟨_, rfl⟩
      rw [hrow] at HR hgame hcode hrl0
      have HGM := Lib.hid hgame
      have HCD := Lib.hid hcode
      have hrl := Lib.hid hrl0
      clear hrow hgame hcode hrl0
      go_wp2_with fail
      go_loopw [9, 11] (fun v i wr => NxRel N L q c w3 v i wr) (fun _ i _ => 2 ^ L - (intOf i).toNat)
      case atStart => exact ⟨0, Nat.zero_le _, by rw [HX0.out], rfl, grownBy_refl _ _⟩
      case round =>
        obtain ⟨S, hS, rfl, rfl, hgr4⟩ := hrel
        have hPn : ((2 ^ L : Nat) : Int) = P := by rw [← HP.out]; push_cast; rfl
        by_cases hgo : S < 2 ^ L ∧ anyB N L q c S = false
        · obtain ⟨hS2, hany⟩ := hgo
          have sP : (S : Int) < P := by omega
          have HS2 := Lib.hid hS2
          have hst := any_step N L q c S
          rw [hany, Bool.false_or] at hst
          have hax : oneI (anyB N L q c S) = 0 := by rw [hany]; rfl
          rw [hax]
          have c1 := sansd_any rb rc row S true wr (HR.out.grown hgr4) (by rw [hrl.out]; exact HL.out.2) (fun k hk => ⟨((gameB_of HGM.out).2.2 k hk).1, by have := ((gameB_of HGM.out).2.2 k hk).2; have := HN.out; omega⟩)
          rw [hrl.out] at c1
          have kt : codeL N (ansL row S true) = ansN N L c S true := by rw [code_ans HGM.out, hrl.out, HCD.out]
          have kf : codeL N (ansL row S false) = ansN N L c S false := by rw [code_ans HGM.out, hrl.out, HCD.out]
          have lt := ans_lt_at HN.out HL.out HC.out hS2 true
          have lf := ans_lt_at HN.out HL.out HC.out hS2 false
          have hpw : (N + 1) ^ L = A := HA.out
          rw [hpw] at lt lf
          have ct := HCX.out (ansN N L c S true) (by rw [hzl.out]; exact lt)
          have cf := HCX.out (ansN N L c S false) (by rw [hzl.out]; exact lf)
          rw [hzat.out _ lt] at ct
          rw [hzat.out _ lf] at cf
          have vt : svI N L q (ansN N L c S true) = oneI (svB N L q (ansN N L c S true)) := rfl
          have vf : svI N L q (ansN N L c S false) = oneI (svB N L q (ansN N L c S false)) := rfl
          rw [vt] at ct
          rw [vf] at cf
          have HST : Hid (anyB N L q c (S + 1) = (svB N L q (ansN N L c S true) && svB N L q (ansN N L c S false))) := hst
          have KT := Lib.hid kt
          have KF := Lib.hid kf
          have ltz : ((ansN N L c S true : Nat) : Int) < (zs.length : Int) := by have := hzl.out; omega
          have lfz : ((ansN N L c S false : Nat) : Int) < (zs.length : Int) := by have := hzl.out; omega
          have HCT := Lib.hid ct
          have HCF := Lib.hid cf
          clear hS hS2 hany hst hax kt kf lt lf hpw ct cf vt vf
          generalize ansN N L c S true = kT at *
          generalize ansN N L c S false = kF at *
          generalize svB N L q kT = bT at *
          generalize svB N L q kF = bF at *
          have G4 := Lib.hid hgr4
          clear hgr4 hPn
          go_wp2_with fail
          refine c1.mono ?_
          rintro e w5 ⟨d1, e1, rfl, hO5, g5⟩
          clear c1
          have c2 := slcode_any N d1 e1 (ansL row S true) w5 (hO5.at (by rw [ans_len, hrl.out]; have := HL.out; unfold maxLen; omega)) (ans_game HGM.out S true)
          rw [KT.out] at c2
          have G5 := Lib.hid (grownBy_trans G4.out g5)
          have n5 := (grownBy_trans HG3.out G5.out).cell HCT.out (by simp)
          clear hO5 g5
          go_wp2_with fail
          refine c2.mono ?_
          rintro e w' ⟨rfl, rfl⟩
          clear c2
          cases bT
          · have n5 : w5.cell? ⟨bx, ox + kT, none⟩ = some (.int .i64 0) := n5
            go_wp2_with fail
            go_roundw
            case rel => exact ⟨S + 1, HS2.out, by rw [HST.out]; rfl, by go_num, G5.out⟩
            case measure => have := HS2.out; simp [intOf]; omega
          · have n5 : w5.cell? ⟨bx, ox + kT, none⟩ = some (.int .i64 1) := n5
            have c3 := sansd_any rb rc row S false w5 (HR.out.grown G5.out) (by rw [hrl.out]; exact HL.out.2) (fun k hk => ⟨((gameB_of HGM.out).2.2 k hk).1, by have := ((gameB_of HGM.out).2.2 k hk).2; have := HN.out; omega⟩)
            rw [hrl.out] at c3
            go_wp2_with fail
            refine c3.mono ?_
            rintro e w6 ⟨d2, e2, rfl, hO6, g6⟩
            clear c3 n5
            have c4 := slcode_any N d2 e2 (ansL row S false) w6 (hO6.at (by rw [ans_len, hrl.out]; have := HL.out; unfold maxLen; omega)) (ans_game HGM.out S false)
            rw [KF.out] at c4
            have G6 := Lib.hid (grownBy_trans G5.out g6)
            have n6 := (grownBy_trans HG3.out G6.out).cell HCF.out (by simp)
            clear hO6 g6
            go_wp2_with fail
            refine c4.mono ?_
            rintro e w' ⟨rfl, rfl⟩
            clear c4
            cases bF
            · have n6 : w6.cell? ⟨bx, ox + kF, none⟩ = some (.int .i64 0) := n6
              go_wp2_with fail
              go_roundw
              case rel => exact ⟨S + 1, HS2.out, by rw [HST.out]; rfl, by go_num, G6.out⟩
              case measure => have := HS2.out; simp [intOf]; omega
            · have n6 : w6.cell? ⟨bx, ox + kF, none⟩ = some (.int .i64 1) := n6
              go_wp2_with fail
              go_roundw
              case rel => exact ⟨S + 1, HS2.out, by rw [HST.out]; rfl, by go_num, G6.out⟩
              case measure => have := HS2.out; simp [intOf]; omega
        · have hfin : Hid (svI N L (q + 1) c = oneI (anyB N L q c S)) := by
            unfold Hid
            show oneI (svB N L (q + 1) c) = _
            rw [any_all HN.out HL.out HC.out HQ.out]
            cases hb : anyB N L q c S
            · have : S = 2 ^ L := by
                by_cases e : S < 2 ^ L
                · exact absurd ⟨e, hb⟩ hgo
                · omega
              rw [← this, hb]
            · rw [any_up hS hb]
          have hstop : (S : Int) < P → oneI (anyB N L q c S) = 1 := fun hlt => by
            cases hb : anyB N L q c S
            · exact absurd ⟨by omega, hb⟩ hgo
            · rfl
          have hown := HO3.out.kept hgr4
          have hgr := grownBy_trans HG3.out hgr4
          have hst := Lib.hid (svL_step N L (q + 1) c)
          have hv : oneI (anyB N L q c S) = 0 ∨ oneI (anyB N L q c S) = 1 := by cases anyB N L q c S <;> simp [oneI]
          clear hgo hgr4 HO3 HG3 HR HGM HCD
          generalize oneI (anyB N L q c S) = x at *
          by_cases hSP : (S : Int) < P
          · obtain rfl := hstop hSP
            clear hstop hv
            go_wp2_with (at_builtin; refine wpList_append_own _ rfl _ _ 23 rfl w.heap.size 3 i0 (.int .i64 0) 1 8 Try.underlying23 hi hz0 hz1 hz2 rfl (by decide) _ _ _ rfl (World.ownsRow.alloc hown _) ⟨wr.heap.size, 0, none⟩ 1 1 [.int .i64 1] rfl rfl ?c1p ?c2p ?c3p ?c4p ?c5p ?_)
            case c1p =>
              intro j u hj
              match j, hj with
              | 0, hj => simp at hj; subst hj; simp [Addr.add]
            case c2p => first | rfl | (intro u hu; simp at hu; subst hu; rfl)
            case c3p => unfold maxLen; omega
            case c4p => omega
            case c5p => have := hgr.size; simp; omega
            intro v' w7 hown' hgrow _
            have R := row_more hown hgr hown' (grow_box hgrow)
            have e : Hid (svL N L (q + 1) c ++ [1] = svL N L (q + 1) (c + 1)) := by unfold Hid; rw [hst.out, hfin.out]
            rw [e.out] at R
            clear hown hown' hgrow
            go_wp2
            go_roundw
            case rel => exact ⟨c + 1, HCA.out, by go_num, R⟩
            case measure => have := HCA.out; simp [intOf]; omega
          · clear hstop
            rcases hv with rfl | rfl
            · go_wp2_with (at_builtin; refine wpList_append_own _ rfl _ _ 23 rfl w.heap.size 3 i0 (.int .i64 0) 1 8 Try.underlying23 hi hz0 hz1 hz2 rfl (by decide) _ _ _ rfl (World.ownsRow.alloc hown _) ⟨wr.heap.size, 0, none⟩ 1 1 [.int .i64 0] rfl rfl ?c1q ?c2q ?c3q ?c4q ?c5q ?_)
              case c2q => first | rfl | (intro u hu; simp at hu; subst hu; rfl)
              case c3q => unfold maxLen; omega
              case c4q => omega
              case c5q => have := hgr.size; simp; omega
              intro v' w7 hown' hgrow _
              have R := row_more hown hgr hown' (grow_box hgrow)
              have e : Hid (svL N L (q + 1) c ++ [0] = svL N L (q + 1) (c + 1)) := by unfold Hid; rw [hst.out, hfin.out]
              rw [e.out] at R
              clear hown hown' hgrow
              go_wp2
              go_roundw
              case rel => exact ⟨c + 1, HCA.out, by go_num, R⟩
              case measure => have := HCA.out; simp [intOf]; omega
            · go_wp2_with (at_builtin; refine wpList_append_own _ rfl _ _ 23 rfl w.heap.size 3 i0 (.int .i64 0) 1 8 Try.underlying23 hi hz0 hz1 hz2 rfl (by decide) _ _ _ rfl (World.ownsRow.alloc hown _) ⟨wr.heap.size, 0, none⟩ 1 1 [.int .i64 1] rfl rfl ?c1r ?c2r ?c3r ?c4r ?c5r ?_)
              case c2r => first | rfl | (intro u hu; simp at hu; subst hu; rfl)
              case c3r => unfold maxLen; omega
              case c4r => omega
              case c5r => have := hgr.size; simp; omega
              intro v' w7 hown' hgrow _
              have R := row_more hown hgr hown' (grow_box hgrow)
              have e : Hid (svL N L (q + 1) c ++ [1] = svL N L (q + 1) (c + 1)) := by unfold Hid; rw [hst.out, hfin.out]
              rw [e.out] at R
              clear hown hown' hgrow
              go_wp2
              go_roundw
              case rel => exact ⟨c + 1, HCA.out, by go_num, R⟩
              case measure => have := HCA.out; simp [intOf]; omega
    · obtain rfl : c = A := by omega
      have hcz : ¬ ((c : Int) < (zs.length : Int)) := by have := hzl.out; omega
      clear hca
      go_wp2
      go_ret
      exact ⟨b, cb, by rw [HA.out]; rfl, by rw [HA.out]; exact hown, hgr⟩

end Go.Proofs.Ythfikgaghinfbaa
