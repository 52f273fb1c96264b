/-
  The model's EnoughOk and FewestOf.
-/
import Derived.Test.YthfikgaghinfbaaLSpec6
namespace Go.Proofs.Ythfikgaghinfbaa
open Go.RowKit

def enW (n : Int) (xs : List Int) (q : Int) : Bool := gameB n xs && (inB q 0 12 && enB n.toNat xs q.toNat)
def NowRel (N L Q : Nat) (w : World) (v i : Value) (wr : World) : Prop := ∃ r : Nat, r ≤ Q ∧ i = .int .i64 r ∧ ∃ b cb, v = .slice b (svL N L r (pw N L)).length cb ∧ IntsAt wr b (svL N L r (pw N L)) ∧ w.grownBy wr none
theorem svL_max {N L q : Nat} (hN : 1 ≤ N ∧ N ≤ 3) (hL : 1 ≤ L ∧ L ≤ 3) : (svL N L q (pw N L)).length ≤ maxLen := by
  rw [svL_len]
  have := (pw_le hN.2 hL.2).2
  unfold maxLen; omega

set_option maxHeartbeats 4000000 in
theorem senough_any (n : Int) (a : Option Addr) (cap : Nat) (xs : List Int) (q : Int) (w : World) (h : IntsAt w a xs) :
    Calls Try.prog 34 #[.int .i64 n, .slice a xs.length cap, .int .i64 q] w fun e w' => e = .returned (.bool (enW n xs q)) ∧ w.grownBy w' none := by
  have cg := sgame_any n a cap xs w h
  have H := Lib.hid h
  clear h
  cases hg : gameB n xs
  · have hz : Hid (enW n xs q = false) := by unfold Hid enW; rw [hg]; rfl
    rw [hg] at cg
    go_enter Try.func34, Try.ntmps34
    go_wp2_with fail
    refine cg.mono ?_
    rintro e w' ⟨rfl, rfl⟩
    clear cg
    go_wp2_with fail
    go_ret
    exact ⟨by rw [hz.out]; rfl, grownBy_refl _ _⟩
  · rw [hg] at cg
    cases hs : inB q 0 12
    · have hz : Hid (enW n xs q = false) := by unfold Hid enW; rw [hg, hs]; rfl
      go_enter Try.func34, Try.ntmps34
      go_wp2_with fail
      refine cg.mono ?_
      rintro e w' ⟨rfl, rfl⟩
      clear cg
      go_wp2_with fail
      refine (in_any q 0 12 _).mono ?_
      rw [hs]
      rintro e w' ⟨rfl, rfl⟩
      go_wp2_with fail
      go_ret
      exact ⟨by rw [hz.out]; rfl, grownBy_refl _ _⟩
    · obtain ⟨Q, rfl⟩ := Int.eq_ofNat_of_zero_le (inB_of hs).1
      obtain ⟨N, rfl⟩ := Int.eq_ofNat_of_zero_le (show 0 ≤ n by have := (gameB_of hg).1; omega)
      have hQ : Q ≤ 12 := by have := inB_of hs; omega
      have hN : 1 ≤ N ∧ N ≤ 3 := by have := (gameB_of hg).1; omega
      have hL := (gameB_of hg).2.1
      have hz : Hid (enW (N : Int) xs (Q : Int) = enB N xs Q) := by unfold Hid enW; rw [hg, hs]; rfl
      have cf := fun w => sfirst_any N xs.length hN hL w
      have HN := Lib.hid hN
      have HL := Lib.hid hL
      have HQ := Lib.hid hQ
      have HS := Lib.hid hs
      have HGM := Lib.hid hg
      have q0 : (0 : Int) ≤ (Q : Int) := by omega
      clear hN hL hs hg
      go_enter Try.func34, Try.ntmps34
      go_wp2_with fail
      refine cg.mono ?_
      rintro e w' ⟨rfl, rfl⟩
      clear cg
      go_wp2_with fail
      refine (in_any (Q : Int) 0 12 _).mono ?_
      rw [HS.out]
      rintro e w' ⟨rfl, rfl⟩
      go_wp2_with fail
      refine (cf w).mono ?_
      rintro e w2 ⟨b, cb, rfl, hO, hg2⟩
      clear cf
      have I2 := Lib.hid (hO.at (svL_max HN.out HL.out))
      have G2 := Lib.hid hg2
      clear hO hg2
      go_wp2_with fail
      go_loopw [7, 8] (fun v i wr => NowRel N xs.length Q w v i wr) (fun _ i _ => Q - (intOf i).toNat)
      case atStart => exact ⟨0, by omega, rfl, b, cb, rfl, I2.out, G2.out⟩
      case round =>
        obtain ⟨r, hr, rfl, b1, cb1, rfl, hI, hgr⟩ := hrel
        have hI1 := Lib.hid hI
        have hG1 := Lib.hid hgr
        clear hI hgr
        by_cases hlt : r < Q
        · have cn := snext_any N xs.length r HN.out HL.out (by omega) b1 cb1 (svL N xs.length r (pw N xs.length)) rfl wr hI1.out
          have HR := Lib.hid hlt
          clear hr hQ
          have hrQ : (r : Int) < (Q : Int) := by omega
          clear hlt
          have hr12 : (r : Int) < 12 := by have := HR.out; have := HQ.out; omega
          go_wp2_with fail
          refine cn.mono ?_
          rintro e w3 ⟨b2, cb2, rfl, hO, hg3⟩
          clear cn
          have I3 := Lib.hid (hO.at (svL_max HN.out HL.out))
          have G3 := Lib.hid (grownBy_trans hG1.out hg3)
          clear hO hg3
          go_wp2_with fail
          go_roundw
          case rel => exact ⟨r + 1, by have := HR.out; omega, by go_num, b2, cb2, rfl, I3.out, G3.out⟩
          case measure => have := HR.out; simp [intOf]; omega
        · obtain rfl : r = Q := by omega
          have cc := slcode_any N a cap xs wr (H.out.grown hG1.out) HGM.out
          have hcl : codeL N xs < pw N xs.length := (code_dig HGM.out).1
          have hv : (svL N xs.length r (pw N xs.length)).getD (codeL N xs) 0 = oneI (enB N xs r) := by rw [svL_at _ _ _ _ hcl]; rfl
          have hlen : ((codeL N xs : Nat) : Int) < ((svL N xs.length r (pw N xs.length)).length : Int) := by rw [svL_len]; omega
          have h64 : codeL N xs ≤ 64 := Nat.le_trans (Nat.le_of_lt hcl) (pw_le HN.out.2 HL.out.2).2
          rcases hI1.out.2 with h0 | ⟨bx, ox, rfl, hbx, hcx⟩
          · have : (svL N xs.length r (pw N xs.length)).length = 0 := by rw [h0]; rfl
            omega
          have hc := hcx (codeL N xs) (by omega)
          rw [hv] at hc
          have hlm := svL_max (q := r) HN.out HL.out
          unfold maxLen at hlm
          have HC := Lib.hid hc
          clear hI1 hbx hcx hv hcl hc hr hlt hQ
          generalize svL N xs.length r (pw N xs.length) = zs at *
          generalize codeL N xs = K at *
          generalize enB N xs r = bb at *
          go_wp2_with fail
          refine cc.mono ?_
          rintro e w' ⟨rfl, rfl⟩
          clear cc
          cases bb
          · have hc : wr.cell? ⟨bx, ox + K, none⟩ = some (.int .i64 0) := HC.out
            go_wp2_with fail
            go_ret
            exact ⟨by rw [hz.out]; rfl, hG1.out⟩
          · have hc : wr.cell? ⟨bx, ox + K, none⟩ = some (.int .i64 1) := HC.out
            go_wp2_with fail
            go_ret
            exact ⟨by rw [hz.out]; rfl, hG1.out⟩

/-! The fewest. -/

def fewW (n : Int) (xs : List Int) : Int := if gameB n xs = true then (fewL n.toNat xs : Nat) else -1
set_option maxHeartbeats 4000000 in
theorem sfewest_any (n : Int) (a : Option Addr) (cap : Nat) (xs : List Int) (w : World) (h : IntsAt w a xs) :
    Calls Try.prog 37 #[.int .i64 n, .slice a xs.length cap] w fun e w' => e = .returned (.tuple #[.int .i64 (fewW n xs), .bool (gameB n xs)]) ∧ w.grownBy w' none := by
  have cg := sgame_any n a cap xs w h
  have H := Lib.hid h
  clear h
  cases hg : gameB n xs
  · have hz : Hid (fewW n xs = -1) := if_neg (by rw [hg]; simp)
    rw [hg] at cg
    go_enter Try.func37, Try.ntmps37
    go_wp2_with fail
    refine cg.mono ?_
    rintro e w' ⟨rfl, rfl⟩
    clear cg
    go_wp2_with fail
    go_ret2
    exact ⟨by rw [hz.out]; rfl, grownBy_refl _ _⟩
  · rw [hg] at cg
    obtain ⟨N, rfl⟩ := Int.eq_ofNat_of_zero_le (show 0 ≤ n by have := (gameB_of hg).1; omega)
    have hN : 1 ≤ N ∧ N ≤ 3 := by have := (gameB_of hg).1; omega
    have hL := (gameB_of hg).2.1
    obtain ⟨f1, f2, f3⟩ := few_is hg
    have hz : Hid (fewW (N : Int) xs = (fewL N xs : Nat)) := if_pos hg
    obtain ⟨F, hF⟩ : ∃ F, fewL N xs = F := ⟨_, rfl⟩
    rw [hF] at f1 f2 f3
    have HF := Lib.hid hF
    have F1 := Lib.hid f1
    have F2 := Lib.hid f2
    have F3 := Lib.hid f3
    have cf := fun w => sfirst_any N xs.length hN hL w
    have HN := Lib.hid hN
    have HL := Lib.hid hL
    have HGM := Lib.hid hg
    clear hN hL hg f1 f2 f3 hF
    go_enter Try.func37, Try.ntmps37
    go_wp2_with fail
    refine cg.mono ?_
    rintro e w' ⟨rfl, rfl⟩
    clear cg
    go_wp2_with fail
    refine (cf w).mono ?_
    rintro e w2 ⟨b, cb, rfl, hO, hg2⟩
    clear cf
    have I2 := Lib.hid (hO.at (svL_max HN.out HL.out))
    have G2 := Lib.hid hg2
    clear hO hg2
    go_wp2_with fail
    go_loopw [6, 7] (fun v i wr => NowRel N xs.length F w v i wr) (fun _ i _ => F - (intOf i).toNat)
    case atStart => exact ⟨0, by omega, rfl, b, cb, rfl, I2.out, G2.out⟩
    case round =>
      obtain ⟨r, hr, rfl, b1, cb1, rfl, hI, hgr⟩ := hrel
      have hI1 := Lib.hid hI
      have hG1 := Lib.hid hgr
      clear hI hgr
      have cc := slcode_any N a cap xs wr (H.out.grown hG1.out) HGM.out
      have hcl : codeL N xs < pw N xs.length := (code_dig HGM.out).1
      have hv : (svL N xs.length r (pw N xs.length)).getD (codeL N xs) 0 = oneI (enB N xs r) := by rw [svL_at _ _ _ _ hcl]; rfl
      have hlen : ((codeL N xs : Nat) : Int) < ((svL N xs.length r (pw N xs.length)).length : Int) := by rw [svL_len]; omega
      have h64 : codeL N xs ≤ 64 := Nat.le_trans (Nat.le_of_lt hcl) (pw_le HN.out.2 HL.out.2).2
      rcases hI1.out.2 with h0 | ⟨bx, ox, rfl, hbx, hcx⟩
      · have : (svL N xs.length r (pw N xs.length)).length = 0 := by rw [h0]; rfl
        omega
      have hc := hcx (codeL N xs) (by omega)
      rw [hv] at hc
      have cn := snext_any N xs.length r HN.out HL.out (by have := F2.out; omega) (some ⟨bx, ox, none⟩) cb1 (svL N xs.length r (pw N xs.length)) rfl wr hI1.out
      have hlm := svL_max (q := r) HN.out HL.out
      unfold maxLen at hlm
      have HC := Lib.hid hc
      have HR := Lib.hid hr
      have hr12 : (r : Int) ≤ 12 := by have := F2.out; omega
      have hcase : Hid ((r = F ∧ enB N xs r = true) ∨ (r < F ∧ enB N xs r = false)) := by
        unfold Hid
        by_cases e : r < F
        · exact .inr ⟨e, F3.out r e⟩
        · have e2 : r = F := by omega
          exact .inl ⟨e2, by rw [e2]; exact F1.out⟩
      clear hI1 hbx hcx hv hcl hc hr
      generalize hzs : svL N xs.length r (pw N xs.length) = zs at *
      clear hzs
      generalize codeL N xs = K at *
      go_wp2_with fail
      refine cc.mono ?_
      rintro e w' ⟨rfl, rfl⟩
      clear cc
      rcases hcase.out with ⟨rfl, hb⟩ | ⟨hlt, hb⟩
      · have hc : wr.cell? ⟨bx, ox + K, none⟩ = some (.int .i64 1) := by have := HC.out; rw [hb] at this; exact this
        clear hb cn hcase
        go_wp2_with fail
        go_ret2
        exact ⟨by rw [hz.out, HF.out]; rfl, hG1.out⟩
      · have hc : wr.cell? ⟨bx, ox + K, none⟩ = some (.int .i64 0) := by have := HC.out; rw [hb] at this; exact this
        have HLT := Lib.hid hlt
        clear hb hcase hlt
        go_wp2_with fail
        refine cn.mono ?_
        rintro e w3 ⟨b2, cb2, rfl, hO, hg3⟩
        clear cn
        have I3 := Lib.hid (hO.at (svL_max HN.out HL.out))
        have G3 := Lib.hid (grownBy_trans hG1.out hg3)
        clear hO hg3
        go_wp2_with fail
        go_roundw
        case rel => exact ⟨r + 1, by have := HLT.out; omega, by go_num, b2, cb2, rfl, I3.out, G3.out⟩
        case measure => have := HLT.out; simp [intOf]; omega

end Go.Proofs.Ythfikgaghinfbaa
