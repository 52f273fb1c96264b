/-
  The model's BestSet.
-/
import Derived.Test.YthfikgaghinfbaaLSpec7
namespace Go.Proofs.Ythfikgaghinfbaa
open Go.RowKit

theorem pow_wrap {l : Nat} (h : 1 ≤ l ∧ l ≤ 3) : wrap64 (2 ^ l) = 2 ^ l ∧ IntKind.i64.wrap (2 ^ l) = 2 ^ l := by
  have tp := two_pow h
  generalize (2 : Int) ^ l = P at *
  exact ⟨by unfold wrap64; omega, IntWalk.i64_in _ (by omega)⟩
theorem best_first {N : Nat} {row : List Int} (h : gameB (N : Int) row = true) (h0 : fewL N row ≠ 0) :
    bestL N row < 2 ^ row.length ∧ bothB N row.length (fewL N row - 1) (codeL N row) (bestL N row) = true ∧ ∀ s, s < bestL N row → bothB N row.length (fewL N row - 1) (codeL N row) s = false := by
  have hb := (best_is h h0).1
  have hl := (gameB_of h).2.1
  unfold bestL bestN at hb ⊢
  unfold fewL
  cases hf : (List.range (2 ^ row.length)).find? fun s => svB N row.length (fewN N row.length (codeL N row) - 1) (ansN N row.length (codeL N row) s true) && svB N row.length (fewN N row.length (codeL N row) - 1) (ansN N row.length (codeL N row) s false) with
  | none =>
    rw [hf] at hb
    have : 2 ^ row.length ≤ 2 ^ 3 := Nat.pow_le_pow_right (by omega) hl.2
    simp at hb
    omega
  | some q =>
    rw [hf] at hb
    simp only [Option.getD_some] at hb ⊢
    have h1 := List.find?_some hf
    obtain ⟨_, pre, bs, e, hall⟩ := List.find?_eq_some_iff_append.1 hf
    refine ⟨hb, h1, fun s hs => ?_⟩
    have hlen : pre.length = q := by
      have h2 : (List.range (2 ^ row.length))[pre.length]? = some q := by rw [e]; simp
      rw [List.getElem?_eq_some_iff] at h2
      obtain ⟨_, h2⟩ := h2
      simpa using h2
    have hq2 : s ∈ pre := by
      have h3 : (List.range (2 ^ row.length))[s]? = pre[s]? := by rw [e, List.getElem?_append_left (by omega)]
      rw [List.getElem?_eq_getElem (l := pre) (by omega), List.getElem?_eq_some_iff] at h3
      obtain ⟨_, h3⟩ := h3
      have h4 : s = pre[s] := by simpa using h3
      rw [h4]
      exact List.getElem_mem _
    have := hall s hq2
    unfold bothB
    rw [Bool.not_eq_true'] at this
    exact this
def bestOk (n : Int) (xs : List Int) : Bool := gameB n xs && fewL n.toNat xs != 0
def bestW (n : Int) (xs : List Int) : Int := if bestOk n xs = true then (bestL n.toNat xs : Nat) else -1
def PrevRel (N L F : Nat) (w : World) (v i : Value) (wr : World) : Prop := ∃ r : Nat, r + 1 ≤ F ∧ i = .int .i64 ((r + 1 : Nat) : Int) ∧ ∃ b cb, v = .slice b (svL N L r (pw N L)).length cb ∧ IntsAt wr b (svL N L r (pw N L)) ∧ w.grownBy wr none
def SetRel (B : Nat) (w : World) (i : Value) (wr : World) : Prop := ∃ S : Nat, S ≤ B ∧ i = .int .i64 S ∧ w.grownBy wr none

set_option maxHeartbeats 8000000 in
theorem sbest_any (n : Int) (a : Option Addr) (cap : Nat) (xs : List Int) (w : World) (h : IntsAt w a xs) :
    Calls Try.prog 40 #[.int .i64 n, .slice a xs.length cap] w fun e w' => e = .returned (.tuple #[.int .i64 (bestW n xs), .bool (bestOk n xs)]) ∧ w.grownBy w' none := by
  have cw := sfewest_any n a cap xs w h
  have H := Lib.hid h
  clear h
  cases hg : gameB n xs
  · have hz : Hid (bestOk n xs = false) := by unfold Hid bestOk; rw [hg]; rfl
    have hz2 : Hid (bestW n xs = -1) := by unfold Hid bestW; rw [hz.out]; rfl
    rw [hg] at cw
    generalize fewW n xs = f at *
    go_enter Try.func40, Try.ntmps40
    go_wp2_with fail
    refine cw.mono ?_
    rintro e w1 ⟨rfl, g1⟩
    clear cw
    go_wp2_with fail
    go_ret2
    exact ⟨by rw [hz.out, hz2.out]; rfl, g1⟩
  · rw [hg] at cw
    obtain ⟨N, rfl⟩ := Int.eq_ofNat_of_zero_le (show 0 ≤ n by have := (gameB_of hg).1; omega)
    have hN : 1 ≤ N ∧ N ≤ 3 := by have := (gameB_of hg).1; omega
    have hL := (gameB_of hg).2.1
    have hfw : fewW (N : Int) xs = (fewL N xs : Nat) := if_pos hg
    rw [hfw] at cw
    by_cases h0 : fewL N xs = 0
    · have hz : Hid (bestOk (N : Int) xs = false) := by unfold Hid bestOk; rw [hg]; show (fewL N xs != 0) = false; rw [h0]; rfl
      have hz2 : Hid (bestW (N : Int) xs = -1) := by unfold Hid bestW; rw [hz.out]; rfl
      rw [h0] at cw
      clear hfw h0
      go_enter Try.func40, Try.ntmps40
      go_wp2_with fail
      refine cw.mono ?_
      rintro e w1 ⟨rfl, g1⟩
      clear cw
      go_wp2_with fail
      go_ret2
      exact ⟨by rw [hz.out, hz2.out]; rfl, g1⟩
    · have hz : Hid (bestOk (N : Int) xs = true) := by unfold Hid bestOk; rw [hg]; show (fewL N xs != 0) = true; simpa using h0
      have hz2 : Hid (bestW (N : Int) xs = (bestL N xs : Nat)) := by unfold Hid bestW; rw [hz.out]; rfl
      obtain ⟨b1, b2, b3⟩ := best_first hg h0
      have hF12 := (few_is hg).2.1
      obtain ⟨F, hF⟩ : ∃ F, fewL N xs = F := ⟨_, rfl⟩
      rw [hF] at cw h0 b2 b3 hF12
      obtain ⟨B, hB⟩ : ∃ B, bestL N xs = B := ⟨_, rfl⟩
      rw [hB] at b1 b2 b3
      have HB := Lib.hid hB
      have B1 := Lib.hid b1
      have B2 := Lib.hid b2
      have B3 := Lib.hid b3
      have f0 : ¬ ((F : Int) = 0) := by omega
      have f1 : (1 : Int) ≤ (F : Int) := by omega
      have F12 := Lib.hid hF12
      have F0 := Lib.hid (show 1 ≤ F by omega)
      have tp := two_pow hL
      obtain ⟨P, hP⟩ : ∃ P : Int, 2 ^ xs.length = P := ⟨_, rfl⟩
      have HP := Lib.hid hP
      rw [hP] at tp
      have hsh : wrap64 (2 ^ xs.length) = P := (pow_wrap hL).1.trans hP
      have hsh' : IntKind.i64.wrap (2 ^ xs.length) = P := (pow_wrap hL).2.trans hP
      have hl3 : (xs.length : Int) ≤ 3 := by omega
      have cf := fun w => sfirst_any N xs.length hN hL w
      have HN := Lib.hid hN
      have HL := Lib.hid hL
      have HGM := Lib.hid hg
      clear hN hL hg b1 b2 b3 hB hF hfw h0 hP hF12
      go_enter Try.func40, Try.ntmps40
      go_wp2_with fail
      refine cw.mono ?_
      rintro e w1 ⟨rfl, g1⟩
      clear cw
      have G1 := Lib.hid g1
      clear g1
      go_wp2_with fail
      refine (cf _).mono ?_
      rintro e w2 ⟨b, cb, rfl, hO, hg2⟩
      clear cf
      have I2 := Lib.hid (hO.at (svL_max HN.out HL.out))
      have G2 := Lib.hid (grownBy_trans G1.out hg2)
      clear hO hg2
      go_wp2_with fail
      go_loopw [8, 9] (fun v i wr => PrevRel N xs.length F w v i wr) (fun _ i _ => F - (intOf i).toNat)
      case atStart => exact ⟨0, F0.out, rfl, b, cb, rfl, I2.out, G2.out⟩
      case round =>
        obtain ⟨r, hr, rfl, b1, cb1, rfl, hI, hgr⟩ := hrel
        have hI1 := Lib.hid hI
        have hG1 := Lib.hid hgr
        have r12 : ((r + 1 : Nat) : Int) ≤ 12 := by have := F12.out; omega
        clear hI hgr
        by_cases hlt : r + 1 < F
        · have cn := snext_any N xs.length r HN.out HL.out (by have := F12.out; omega) b1 cb1 (svL N xs.length r (pw N xs.length)) rfl wr hI1.out
          have HR := Lib.hid hlt
          have hrF : ((r + 1 : Nat) : Int) < (F : Int) := by omega
          have hn2 : ((r + 1 : Nat) : Int) + 1 = ((r + 1 + 1 : Nat) : Int) := by omega
          have HN2 := Lib.hid hn2
          have R0 : (0 : Int) ≤ ((r + 1 : Nat) : Int) := by omega
          clear hr hlt hn2
          obtain ⟨K, hK⟩ : ∃ K : Int, ((r + 1 : Nat) : Int) = K := ⟨_, rfl⟩
          have HK := Lib.hid hK
          rw [hK] at r12 hrF R0 ⊢
          clear hK
          go_wp2_with fail
          refine cn.mono ?_
          rintro e w3 ⟨b2, cb2, rfl, hO, hg3⟩
          clear cn
          have I3 := Lib.hid (hO.at (svL_max HN.out HL.out))
          have G3 := Lib.hid (grownBy_trans hG1.out hg3)
          clear hO hg3
          go_wp2_with fail
          go_roundw
          case rel => exact ⟨r + 1, by have := HR.out; omega, by rw [← HN2.out, HK.out], b2, cb2, rfl, I3.out, G3.out⟩
          case measure => have := HR.out; have := HK.out; simp [intOf]; omega
        · have erF : r = F - 1 := by omega
          have hrF : ¬ (((r + 1 : Nat) : Int) < (F : Int)) := by omega
          have hzl : Hid ((svL N xs.length r (pw N xs.length)).length = pw N xs.length) := svL_len _ _ _ _
          have hzat : Hid (∀ c, c < pw N xs.length → (svL N xs.length r (pw N xs.length)).getD c 0 = svI N xs.length r c) := fun c hc => svL_at _ _ _ _ hc
          have hz64 : (svL N xs.length r (pw N xs.length)).length ≤ 64 := by rw [svL_len]; exact (pw_le HN.out.2 HL.out.2).2
          have ER := Lib.hid erF
          rcases hI1.out.2 with h0 | ⟨bx, ox, rfl, hbx, hcx⟩
          · have := hzl.out
            rw [h0] at this
            have := (pw_le (N := N) (k := xs.length) HN.out.2 HL.out.2).1
            simp at *
            omega
          have HCX := Lib.hid hcx
          have HW := Lib.hid (show wr.grownBy wr none from grownBy_refl _ _)
          clear hr hlt erF hcx hbx
          generalize hzs : svL N xs.length r (pw N xs.length) = zs at *
          clear hzs
          obtain ⟨K, hK⟩ : ∃ K : Int, ((r + 1 : Nat) : Int) = K := ⟨_, rfl⟩
          rw [hK] at r12 hrF ⊢
          clear hK
          obtain ⟨wz, rfl⟩ : ∃ wz, wz = wr := ⟨_, rfl⟩
          go_wp2_with fail
          go_loopw [10] (fun i wr => SetRel B wz i wr) (fun i _ => B - (intOf i).toNat)
          case atStart => exact ⟨0, Nat.zero_le _, rfl, grownBy_refl _ _⟩
          case round =>
            obtain ⟨S, hS, rfl, hgr4⟩ := hrel
            have hPn : ((2 ^ xs.length : Nat) : Int) = P := by rw [← HP.out]; push_cast; rfl
            have hS2 : S < 2 ^ xs.length := Nat.lt_of_le_of_lt hS B1.out
            have sP : (S : Int) < P := by omega
            have hbo : Hid (bothB N xs.length r (codeL N xs) S = decide (S = B)) := by
              unfold Hid
              by_cases e : S = B
              · rw [e, ER.out, B2.out]; simp
              · rw [ER.out, B3.out S (by omega)]; simp [e]
            have c1 := sansd_any a cap xs S true wr (H.out.grown (grownBy_trans hG1.out hgr4)) HL.out.2 (fun k hk => ⟨((gameB_of HGM.out).2.2 k hk).1, by have := ((gameB_of HGM.out).2.2 k hk).2; have := HN.out; omega⟩)
            have kt := code_ans HGM.out S true
            have kf := code_ans HGM.out S false
            have lt := ans_lt_at HN.out HL.out (code_dig HGM.out).1 hS2 true
            have lf := ans_lt_at HN.out HL.out (code_dig HGM.out).1 hS2 false
            have ct := HCX.out (ansN N xs.length (codeL N xs) S true) (by rw [hzl.out]; exact lt)
            have cfx := HCX.out (ansN N xs.length (codeL N xs) S false) (by rw [hzl.out]; exact lf)
            rw [hzat.out _ lt] at ct
            rw [hzat.out _ lf] at cfx
            have vt : svI N xs.length r (ansN N xs.length (codeL N xs) S true) = oneI (svB N xs.length r (ansN N xs.length (codeL N xs) S true)) := rfl
            have vf : svI N xs.length r (ansN N xs.length (codeL N xs) S false) = oneI (svB N xs.length r (ansN N xs.length (codeL N xs) S false)) := rfl
            rw [vt] at ct
            rw [vf] at cfx
            have HBO : Hid ((svB N xs.length r (ansN N xs.length (codeL N xs) S true) && svB N xs.length r (ansN N xs.length (codeL N xs) S false)) = decide (S = B)) := hbo
            have KT := Lib.hid kt
            have KF := Lib.hid kf
            have ltz : ((ansN N xs.length (codeL N xs) S true : Nat) : Int) < (zs.length : Int) := by have := hzl.out; have : ansN N xs.length (codeL N xs) S true < pw N xs.length := lt; omega
            have lfz : ((ansN N xs.length (codeL N xs) S false : Nat) : Int) < (zs.length : Int) := by have := hzl.out; have : ansN N xs.length (codeL N xs) S false < pw N xs.length := lf; omega
            have HCT := Lib.hid ct
            have HCF := Lib.hid cfx
            have HS := Lib.hid hS
            have G4 := Lib.hid hgr4
            clear hS hS2 kt kf lt lf ct cfx vt vf hbo hgr4 hPn
            generalize ansN N xs.length (codeL N xs) S true = kT at *
            generalize ansN N xs.length (codeL N xs) S false = kF at *
            generalize svB N xs.length r kT = bT at *
            generalize svB N xs.length r kF = bF at *
            go_wp2_with fail
            refine c1.mono ?_
            rintro e w5 ⟨d1, e1, rfl, hO5, g5⟩
            clear c1
            have c2 := slcode_any N d1 e1 (ansL xs S true) w5 (hO5.at (by rw [ans_len]; have := HL.out; unfold maxLen; omega)) (ans_game HGM.out S true)
            rw [KT.out] at c2
            have G5 := Lib.hid (grownBy_trans G4.out g5)
            have n5 := G5.out.cell HCT.out (by simp)
            clear hO5 g5
            go_wp2_with fail
            refine c2.mono ?_
            rintro e w' ⟨rfl, rfl⟩
            clear c2
            cases bT
            · have n5 : w5.cell? ⟨bx, ox + kT, none⟩ = some (.int .i64 0) := n5
              have hne : S ≠ B := by have := HBO.out; simpa using this
              have HNE := Lib.hid hne
              clear hne
              go_wp2_with fail
              go_roundw
              case rel => exact ⟨S + 1, by have := HNE.out; have := HS.out; omega, by go_num, G5.out⟩
              case measure => have := HNE.out; have := HS.out; simp [intOf]; omega
            · have n5 : w5.cell? ⟨bx, ox + kT, none⟩ = some (.int .i64 1) := n5
              have c3 := sansd_any a cap xs S false w5 (H.out.grown (grownBy_trans hG1.out G5.out)) HL.out.2 (fun k hk => ⟨((gameB_of HGM.out).2.2 k hk).1, by have := ((gameB_of HGM.out).2.2 k hk).2; have := HN.out; omega⟩)
              go_wp2_with fail
              refine c3.mono ?_
              rintro e w6 ⟨d2, e2, rfl, hO6, g6⟩
              clear c3 n5
              have c4 := slcode_any N d2 e2 (ansL xs S false) w6 (hO6.at (by rw [ans_len]; have := HL.out; unfold maxLen; omega)) (ans_game HGM.out S false)
              rw [KF.out] at c4
              have G6 := Lib.hid (grownBy_trans G5.out g6)
              have n6 := G6.out.cell HCF.out (by simp)
              clear hO6 g6
              go_wp2_with fail
              refine c4.mono ?_
              rintro e w' ⟨rfl, rfl⟩
              clear c4
              cases bF
              · have n6 : w6.cell? ⟨bx, ox + kF, none⟩ = some (.int .i64 0) := n6
                have hne : S ≠ B := by have := HBO.out; simpa using this
                have HNE := Lib.hid hne
                clear hne
                go_wp2_with fail
                go_roundw
                case rel => exact ⟨S + 1, by have := HNE.out; have := HS.out; omega, by go_num, G6.out⟩
                case measure => have := HNE.out; have := HS.out; simp [intOf]; omega
              · have n6 : w6.cell? ⟨bx, ox + kF, none⟩ = some (.int .i64 1) := n6
                have heq : S = B := by have := HBO.out; simpa using this
                have HEQ := Lib.hid heq
                clear heq
                go_wp2_with fail
                go_ret2
                exact ⟨by rw [hz.out, hz2.out, HB.out, ← HEQ.out]; rfl, grownBy_trans hG1.out G6.out⟩

end Go.Proofs.Ythfikgaghinfbaa
