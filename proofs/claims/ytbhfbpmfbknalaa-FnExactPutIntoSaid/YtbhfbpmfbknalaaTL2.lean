/-
  The laws of TableAt and RegularOk.
-/
import Derived.Test.YtbhfbpmfbknalaaTL1
namespace Go.Proofs.Ytbhfbpmfbknalaa
open Go.RowKit

theorem fol_tab : ((List.range 3).all fun p => (List.range 3).all fun q => triAt (namL 3) (p : Int) (q : Int) == folW 2 (p : Int) (q : Int)) = true := by decide +kernel
theorem fol_at {p q : Int} (hp : inB p 0 2 = true) (hq : inB q 0 2 = true) : triAt (namL 3) p q = folW 2 p q := by
  have hp := inB_of hp
  have hq := inB_of hq
  obtain ⟨P, rfl⟩ := Int.eq_ofNat_of_zero_le hp.1
  obtain ⟨Q, rfl⟩ := Int.eq_ofNat_of_zero_le hq.1
  have h := fol_tab
  rw [List.all_eq_true] at h
  have h := h P (List.mem_range.2 (by omega))
  rw [List.all_eq_true] at h
  exact beq_iff_eq.1 (h Q (List.mem_range.2 (by omega)))
theorem tAt_facts (xs : List Int) (p q : Int) : triAt xs p q = -1 ∨ (inB p 0 2 = true ∧ inB q 0 2 = true ∧ 0 ≤ triAt xs p q ∧ triAt xs p q ≤ 2) := by
  cases h1 : triB xs
  · exact .inl (tAt_not (.inl h1))
  · cases h2 : inB p 0 2
    · exact .inl (tAt_not (.inr (.inl h2)))
    · cases h3 : inB q 0 2
      · exact .inl (tAt_not (.inr (.inr h3)))
      · right
        rw [tAt_yes h1 h2 h3]
        have := inB_of h2
        have := inB_of h3
        exact ⟨rfl, rfl, fT_ok xs _ (by omega)⟩

set_option maxHeartbeats 4000000 in
theorem FnTableAt_walk (a0 : Option Addr) (len0 cap0 : Nat) (z0 : List Int) (w : World) (w0 : IsRow .u8 w a0 len0 cap0 z0) :
    Calls Try.prog 4 #[.slice a0 len0 cap0] w fun e w' => e = .returned (.bool true) ∧ Below w.heap.size w w' := by
  by_cases hl : (1048576 : Int) < (len0 : Int)
  · clear w0
    go_enter Try.func4, Try.ntmps4
    go_wp2_with fail
    go_ret
    exact ⟨rfl, Below.refl _ _⟩
  · go_enter Try.func4, Try.ntmps4
    go_wp2_with fail
    refine (DrawTableAt_any _ _ _ _ _ w0).mono ?_
    rintro e w1 ⟨a, cap, xs, p, q, rfl, hI, hg⟩
    clear w0
    have ga := World.grownBy_alloc w1 (.cells #[.slice a xs.length cap] 25) none
    have TT := Lib.hid (T1.new w1 (.slice a xs.length cap))
    have I1 := Lib.hid (hI.grown ga)
    have G1 := Lib.hid (grownBy_trans hg ga)
    have n1 := TT.out.cell
    generalize hv1 : w1.alloc (.cells #[.slice a xs.length cap] 25) = v1 at *
    have c1 := itat_any a cap xs p q v1 I1.out
    have c2 := fun w2 (g : v1.grownBy w2 none) => stat_any a cap xs p q w2 (I1.out.grown g)
    have hf := Lib.hid (tAt_facts xs p q)
    clear hI hg ga
    generalize triAt xs p q = x at *
    have hxx : (x != x) = false := by simp
    go_wp2_with fail
    clear hv1
    refine c1.mono ?_
    rintro e w2 ⟨rfl, g2⟩
    have n2 := g2.cell n1 (by simp)
    clear n1 c1
    go_wp2_with fail
    refine (c2 w2 g2).mono ?_
    rintro e w3 ⟨rfl, g3⟩
    clear n2 c2
    have G3 := Lib.hid (grownBy_trans G1.out (grownBy_trans g2 g3))
    rcases hf.out with rfl | ⟨hp, hq, h0, h2⟩
    · go_wp2_with (go_at_call 18; refine (alive_any _).mono ?_; rintro e w' ⟨rfl, rfl⟩)
      go_ret
      exact ⟨rfl, below_of G3.out⟩
    · have hn : ¬ (x < 0) := by omega
      have cn := inam_any 3 w3
      rw [show namR 3 = namL 3 from rfl, show inN 3 = true from rfl] at cn
      have hfol := fol_at hp hq
      have hl3 : (namL 3).length = 9 := by simp [namL]
      clear hp hq h0
      generalize hz : namL 3 = zs at *
      clear hz
      go_wp2_with fail
      refine cn.mono ?_
      rintro e w4 ⟨b, cb, rfl, hO, hg4⟩
      have gb := World.grownBy_alloc w4 (.cells #[.slice b zs.length cb] 25) none
      have T7 := Lib.hid (T1.new w4 (.slice b zs.length cb))
      have I7 := Lib.hid ((hO.kept gb).at (by rw [hl3]; unfold maxLen; omega))
      have G4 := Lib.hid (grownBy_trans G3.out (grownBy_trans hg4 gb))
      have n7 := T7.out.cell
      generalize hv4 : w4.alloc (.cells #[.slice b zs.length cb] 25) = v4 at *
      clear hO hg4 gb cn hl3
      have ct := itat_any b cb zs p q v4 I7.out
      rw [hfol] at ct
      have cf := fun w => fol_any 2 p q w
      clear hfol
      generalize folW 2 p q = y at *
      go_wp2_with fail
      clear hv4
      refine ct.mono ?_
      rintro e w5 ⟨rfl, g5⟩
      clear ct n7
      go_wp2_with fail
      refine (cf _).mono ?_
      rintro e w6 ⟨rfl, g6⟩
      clear cf
      go_wp2_with fail
      go_ret
      exact ⟨by simp, below_of (grownBy_trans G4.out (grownBy_trans g5 g6))⟩

set_option maxHeartbeats 4000000 in
theorem FnRegularOk_walk (a0 : Option Addr) (len0 cap0 : Nat) (z0 : List Int) (w : World) (w0 : IsRow .u8 w a0 len0 cap0 z0) :
    Calls Try.prog 6 #[.slice a0 len0 cap0] w fun e w' => e = .returned (.bool true) ∧ Below w.heap.size w w' := by
  by_cases hl : (1048576 : Int) < (len0 : Int)
  · clear w0
    go_enter Try.func6, Try.ntmps6
    go_wp2_with fail
    go_ret
    exact ⟨rfl, Below.refl _ _⟩
  · have hmk := make9
    go_enter Try.func6, Try.ntmps6
    go_wp2_with fail
    refine (DrawRegularOk_any _ _ _ _ _ w0).mono ?_
    rintro e w1 ⟨a, cap, xs, rfl, hI, hg⟩
    clear w0
    have ga := World.grownBy_alloc w1 (.cells #[.slice a xs.length cap] 25) none
    have TT := Lib.hid (T1.new w1 (.slice a xs.length cap))
    have I1 := Lib.hid (hI.grown ga)
    have G1 := Lib.hid (grownBy_trans hg ga)
    have n1 := TT.out.cell
    generalize hv1 : w1.alloc (.cells #[.slice a xs.length cap] 25) = v1 at *
    have c1 := ireg_any a cap xs v1 I1.out
    have c2 := fun w2 (g : v1.grownBy w2 none) => sreg_any a cap xs w2 (I1.out.grown g)
    clear hI hg ga
    cases hb : regB xs
    all_goals
      rw [hb] at c1 c2
      go_wp2_with fail
      clear hv1
      refine c1.mono ?_
      rintro e w2 ⟨rfl, g2⟩
      have n2 := g2.cell n1 (by simp)
      clear n1 c1
      go_wp2_with fail
      refine (c2 w2 g2).mono ?_
      rintro e w3 ⟨rfl, g3⟩
      have n3 := g3.cell n2 (by simp)
      clear n2 c2
    · clear n3
      go_wp2_with fail
      have cB := ireg_any _ 9 _ _ (nulls_ints w3)
      rw [nulls_reg] at cB
      refine cB.mono ?_
      rintro e w5 ⟨rfl, g5⟩
      clear cB
      go_wp2_with (go_at_call 18; refine (alive_any _).mono ?_; rintro e w' ⟨rfl, rfl⟩)
      go_ret
      exact ⟨rfl, below_of (grownBy_trans G1.out (grownBy_trans g2 (grownBy_trans g3 (grownBy_trans (World.grownBy_alloc _ _ none) g5))))⟩
    · have HB := Lib.hid hb
      have g13 := grownBy_trans g2 g3
      have ct := itat_any a cap xs 1 1 w3 (I1.out.grown g13)
      have hmid : Hid (triAt xs 1 1 = xs.getD 4 0) := Lib.hid (by rw [tAt_yes (regB_of hb).1 rfl rfl, fT_t (regB_of hb).1]; rfl)
      obtain ⟨mid, hmd⟩ : ∃ mid, xs.getD 4 0 = mid := ⟨_, rfl⟩
      rw [hmid.out, hmd] at ct
      have HMD := Lib.hid hmd
      have C1 := Lib.hid TT.out.cell
      clear hb hmid hmd
      go_wp2_with fail
      refine ct.mono ?_
      rintro e w4 ⟨rfl, g4⟩
      have g14 := grownBy_trans g13 g4
      clear ct n3 g2 g3 g13 g4
      go_wp2_with fail
      go_loopw [6] (fun i wr => ∃ k : Nat, k ≤ 9 ∧ i = .int .i64 k ∧ v1.grownBy wr none) (fun i _ => 9 - (intOf i).toNat)
      case atStart => exact ⟨0, by omega, rfl, g14⟩
      case round =>
        obtain ⟨k, hk, rfl, hgr⟩ := hrel
        clear g14
        by_cases hlt : k < 9
        · by_cases hm : mid = 1
          · have hm1 : (mid != 1) = false := by rw [hm]; rfl
            have HLT := Lib.hid hlt
            have i9 : (k : Int) < 9 := by omega
            have HG := Lib.hid hgr
            clear hm hlt hk hgr
            go_wp2_with fail
            go_roundw
            case rel => exact ⟨k + 1, HLT.out, by go_num, HG.out⟩
            case measure => have := HLT.out; simp [intOf]; omega
          · have hm1 : (mid != 1) = true := by simpa using hm
            have hmm : (mid != mid) = false := by simp
            have HLT := Lib.hid hlt
            have i9 : (k : Int) < 9 := by omega
            obtain ⟨A, hA⟩ : ∃ A, A = k / 3 := ⟨_, rfl⟩
            obtain ⟨B, hB⟩ : ∃ B, B = k % 3 := ⟨_, rfl⟩
            have tA : (k : Int).tdiv 3 = (A : Int) := by rw [Int.tdiv_eq_ediv_of_nonneg (by omega)]; omega
            have tB : (k : Int).tmod 3 = (B : Int) := by rw [Int.tmod_eq_emod_of_nonneg (by omega)]; omega
            have eA : (k : Int) / 3 = (A : Int) := by omega
            have eB : (k : Int) % 3 = (B : Int) := by omega
            have n5 := hgr.cell C1.out (by simp)
            have ct := itat_any a cap xs (A : Int) (B : Int) wr (I1.out.grown hgr)
            have hval : triAt xs (A : Int) (B : Int) = mid := by
              rw [tAt_yes (regB_of HB.out).1 (inB_t (by omega)) (inB_t (by omega)), fT_t (regB_of HB.out).1, show (3 * (A : Int) + (B : Int)).toNat = k by omega]
              show xs.getD k 0 = mid
              rw [reg_mid HB.out (by rw [HMD.out]; exact hm) hlt]
              exact HMD.out
            rw [hval] at ct
            clear hval
            have HG := Lib.hid hgr
            clear hm hlt hk hgr hA hB
            go_wp2_with fail
            refine ct.mono ?_
            rintro e w6 ⟨rfl, g6⟩
            clear ct n5
            go_wp2_with fail
            go_roundw
            case rel => exact ⟨k + 1, HLT.out, by go_num, grownBy_trans HG.out g6⟩
            case measure => have := HLT.out; simp [intOf]; omega
        · obtain rfl : k = 9 := by omega
          have HG := Lib.hid hgr
          clear hlt hk hgr
          go_wp2_with fail
          have cB := ireg_any _ 9 _ _ (nulls_ints wr)
          rw [nulls_reg] at cB
          refine cB.mono ?_
          rintro e w7 ⟨rfl, g7⟩
          clear cB
          go_wp2_with fail
          go_ret
          exact ⟨rfl, below_of (grownBy_trans G1.out (grownBy_trans HG.out (grownBy_trans (World.grownBy_alloc _ _ none) g7)))⟩

end Go.Proofs.Ytbhfbpmfbknalaa
