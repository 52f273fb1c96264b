/-
  The model's RegularOk. No condition but that a table which was handed over can be read.
-/
import Derived.Test.YtbhfbpmfbknalaaTSpec
namespace Go.Proofs.Ytbhfbpmfbknalaa
open Go.RowKit

theorem regB_no {l : List Int} {k : Nat} (hk : k < 81) (h : regK l k = false) : regB l = false := by
  cases e : regB l
  · rfl
  · unfold regB at e
    rw [Bool.and_eq_true, List.all_eq_true] at e
    have := e.2 k (by simpa using hk)
    rw [h] at this
    cases this
theorem regB_end {l : List Int} (ht : triB l = true) (h : ∀ j, j < 81 → regK l j = true) : regB l = true := by
  unfold regB
  rw [ht, Bool.true_and, List.all_eq_true]
  intro j hj
  exact h j (by simpa using hj)
theorem lsZ_cast (a b : Nat) : lsZ (a : Int) (b : Int) = lsN a b := by
  unfold lsZ lsN
  congr 1
  · cases h : (a == b)
    · rw [beq_eq_false_iff_ne] at h ⊢; omega
    · rw [beq_iff_eq] at h ⊢; omega
  · cases h : (a == 1)
    · rw [beq_eq_false_iff_ne] at h ⊢; omega
    · rw [beq_iff_eq] at h ⊢; omega

def RgRel (xs : List Int) (w1 : World) (i : Value) (wr : World) : Prop := ∃ k : Nat, k ≤ 81 ∧ i = .int .i64 k ∧ (∀ j, j < k → regK xs j = true) ∧ w1.grownBy wr none

set_option maxHeartbeats 4000000 in
theorem sreg_any (a : Option Addr) (cap : Nat) (xs : List Int) (w : World) (h : IntsAt w a xs) :
    Calls Try.prog 29 #[.agg #[.slice a xs.length cap]] w fun e w' => e = .returned (.bool (regB xs)) ∧ w.grownBy w' none := by
  have g0 : w.grownBy (w.alloc (.cells #[.slice a xs.length cap] 25)) none := World.grownBy_alloc _ _ none
  have n0 : (w.alloc (.cells #[.slice a xs.length cap] 25)).cell? ⟨w.heap.size, 0, none⟩ = some (.slice a xs.length cap) := by simp
  have H1 := Lib.hid (h.grown g0)
  have G0 := Lib.hid g0
  have N0 := Lib.hid n0
  have ct := fun w2 (g : (w.alloc (.cells #[.slice a xs.length cap] 25)).grownBy w2 none) => stok_any a cap xs w2 (H1.out.grown g)
  clear h g0
  cases ht : triB xs
  · rw [ht] at ct
    have hz : regB xs = false := by unfold regB; rw [ht]; rfl
    clear ht
    go_enter Try.func29, Try.ntmps29
    go_wp2_with fail
    generalize w.alloc (.cells #[.slice a xs.length cap] 25) = w1 at *
    clear n0
    go_loopw [3] (fun i wr => i = .int .i64 0 ∧ w1.grownBy wr none) (fun i _ => 0)
    case atStart => exact ⟨rfl, grownBy_refl _ _⟩
    case round =>
      obtain ⟨rfl, hgr⟩ := hrel
      have n2 := hgr.cell N0.out (by simp)
      have c := ct _ hgr
      go_wp2_with fail
      refine c.mono ?_
      rintro e w2 ⟨rfl, g2⟩
      have hg2 := grownBy_trans hgr g2
      have n3 := hg2.cell N0.out (by simp)
      have c2 := ct _ hg2
      clear c n2
      go_wp2_with fail
      refine c2.mono ?_
      rintro e w3 ⟨rfl, g3⟩
      have hg3 := grownBy_trans hg2 g3
      clear c2 n3
      go_wp2_with fail
      go_ret
      exact ⟨by rw [hz]; rfl, grownBy_trans G0.out hg3⟩
  · rw [ht] at ct
    have HT := Lib.hid ht
    obtain ⟨hl9, _⟩ := triB_of ht
    rcases H1.out.2 with h0 | ⟨bx, ox, rfl, hbx, hcx⟩
    · rw [h0] at hl9; simp at hl9
    have HC := Lib.hid hcx
    have HL := Lib.hid hl9
    clear ht hl9 hbx hcx
    go_enter Try.func29, Try.ntmps29
    go_wp2_with fail
    generalize w.alloc (.cells #[.slice (some ⟨bx, ox, none⟩) xs.length cap] 25) = w1 at *
    clear n0
    go_loopw [3] (fun i wr => RgRel xs w1 i wr) (fun i _ => 81 - (intOf i).toNat)
    case atStart => exact ⟨0, by omega, rfl, fun j hj => absurd hj (by omega), grownBy_refl _ _⟩
    case round =>
      obtain ⟨k, hk, rfl, hb, hgr⟩ := hrel
      have Hb := Lib.hid hb
      clear hb
      have n2 := hgr.cell N0.out (by simp)
      have c := ct _ hgr
      by_cases hlt : k < 81
      · obtain ⟨A, hA⟩ : ∃ A, A = k / 9 := ⟨_, rfl⟩
        obtain ⟨B, hB⟩ : ∃ B, B = k % 9 := ⟨_, rfl⟩
        obtain ⟨D, hD⟩ : ∃ D, D = A / 3 := ⟨_, rfl⟩
        obtain ⟨E, hE⟩ : ∃ E, E = B / 3 := ⟨_, rfl⟩
        obtain ⟨R, hR⟩ : ∃ R, R = A % 3 := ⟨_, rfl⟩
        obtain ⟨T, hT⟩ : ∃ T, T = B % 3 := ⟨_, rfl⟩
        have A9 : A < 9 := by omega
        have B9 : B < 9 := by omega
        have tA : (k : Int).tdiv 9 = (A : Int) := by rw [Int.tdiv_eq_ediv_of_nonneg (by omega)]; omega
        have tB : (k : Int).tmod 9 = (B : Int) := by rw [Int.tmod_eq_emod_of_nonneg (by omega)]; omega
        have tD : (A : Int).tdiv 3 = (D : Int) := by rw [Int.tdiv_eq_ediv_of_nonneg (by omega)]; omega
        have tE : (B : Int).tdiv 3 = (E : Int) := by rw [Int.tdiv_eq_ediv_of_nonneg (by omega)]; omega
        have tR : (A : Int).tmod 3 = (R : Int) := by rw [Int.tmod_eq_emod_of_nonneg (by omega)]; omega
        have tT : (B : Int).tmod 3 = (T : Int) := by rw [Int.tmod_eq_emod_of_nonneg (by omega)]; omega
        have wD : Hid (wrap64 (D : Int) = (D : Int)) := Lib.hid (by unfold wrap64; omega)
        have xD : Hid (IntKind.i64.wrap (D : Int) = (D : Int)) := Lib.hid (IntWalk.i64_in _ (by omega))
        have wE : Hid (wrap64 (E : Int) = (E : Int)) := Lib.hid (by unfold wrap64; omega)
        have xE : Hid (IntKind.i64.wrap (E : Int) = (E : Int)) := Lib.hid (IntWalk.i64_in _ (by omega))
        have eA : (k : Int) / 9 = (A : Int) := by omega
        have eB : (k : Int) % 9 = (B : Int) := by omega
        have hdef : Hid (regK xs k = (!(lsZ (D : Int) (E : Int) && lsZ (R : Int) (T : Int)) || lsZ (xs.getD A 0) (xs.getD B 0))) := Lib.hid (by
          unfold regK pairB
          rw [lsZ_cast, lsZ_cast, hD, hE, hR, hT, hA, hB])
        have hno := Lib.hid (fun h : regK xs k = false => regB_no hlt h)
        have hyes : Hid (regK xs k = true → ∀ j, j < k + 1 → regK xs j = true) := fun h j hj => by
          by_cases e : j = k
          · rw [e]; exact h
          · exact Hb.out j (by omega)
        have i0 : (0 : Int) ≤ (A : Int) := by omega
        have i1 : (A : Int) < (xs.length : Int) := by have := HL.out; omega
        have j0 : (0 : Int) ≤ (B : Int) := by omega
        have j1 : (B : Int) < (xs.length : Int) := by have := HL.out; omega
        have hcA := HC.out A (by have := HL.out; omega)
        have hcB := HC.out B (by have := HL.out; omega)
        have c1 := fun w => less10_any (D : Int) (E : Int) w
        have c2 := fun w => less10_any (R : Int) (T : Int) w
        have c3 := fun w => less10_any (xs.getD A 0) (xs.getD B 0) w
        generalize xs.getD A 0 = p at *
        generalize xs.getD B 0 = q at *
        have Q1 : ∀ {b : Bool} (w : World) (m : Nat), (∀ w, Calls Try.prog 58 #[.int .i64 D, .int .i64 E] w fun e w' => e = .returned (.bool b) ∧ w = w') → Calls Try.prog 58 #[.int .i64 D, .int .i64 E] (w.drewN m) fun e w'' => e = .returned (.bool b) ∧ ∃ m, w'' = w.drewN m := fun w m h => Calls.quiet_of_same ((h _).mono fun _ _ p => ⟨p.1, p.2.symm⟩)
        have Q2 : ∀ {b : Bool} (w : World) (m : Nat), (∀ w, Calls Try.prog 58 #[.int .i64 R, .int .i64 T] w fun e w' => e = .returned (.bool b) ∧ w = w') → Calls Try.prog 58 #[.int .i64 R, .int .i64 T] (w.drewN m) fun e w'' => e = .returned (.bool b) ∧ ∃ m, w'' = w.drewN m := fun w m h => Calls.quiet_of_same ((h _).mono fun _ _ p => ⟨p.1, p.2.symm⟩)
        have Q3 : ∀ {b : Bool} (w : World) (m : Nat), (∀ w, Calls Try.prog 58 #[.int .i64 p, .int .i64 q] w fun e w' => e = .returned (.bool b) ∧ w = w') → Calls Try.prog 58 #[.int .i64 p, .int .i64 q] (w.drewN m) fun e w'' => e = .returned (.bool b) ∧ ∃ m, w'' = w.drewN m := fun w m h => Calls.quiet_of_same ((h _).mono fun _ _ p => ⟨p.1, p.2.symm⟩)
        clear hA hB hD hE hR hT
        go_wp2_with fail
        refine c.mono ?_
        rintro e w2 ⟨rfl, g2⟩
        have hg2 := grownBy_trans hgr g2
        have n3 := hg2.cell N0.out (by simp)
        have mA := hg2.cell hcA (by simp)
        have mB := hg2.cell hcB (by simp)
        have HG := Lib.hid hg2
        clear c n2 hcA hcB ct hgr g2 hg2
        cases h1 : lsZ (D : Int) (E : Int)
        · rw [h1] at c1
          have hn := Lib.hid (hyes.out (by rw [hdef.out, h1]; rfl))
          clear hno hyes hdef h1 c2 c3
          go_wp2_with fail
          go_quiet (first | (go_at_call 58; (first | rw [wD.out, wE.out] | rw [xD.out, xE.out]); exact Q1 _ _ c1) | fail)
          go_wp2
          go_roundw
          case rel => exact ⟨k + 1, by omega, by go_num, hn.out, grownBy_drewN HG.out _⟩
          case measure => simp [intOf]; omega
        · cases h2 : lsZ (R : Int) (T : Int)
          · rw [h1] at c1
            rw [h2] at c2
            have hn := Lib.hid (hyes.out (by rw [hdef.out, h1, h2]; rfl))
            clear hno hyes hdef h1 h2 c3
            go_wp2_with fail
            go_quiet (first | (go_at_call 58; (first | rw [wD.out, wE.out] | rw [xD.out, xE.out]); exact Q1 _ _ c1) | (go_at_call 58; with_reducible exact Q2 _ _ c2))
            go_wp2
            go_roundw
            case rel => exact ⟨k + 1, by omega, by go_num, hn.out, grownBy_drewN HG.out _⟩
            case measure => simp [intOf]; omega
          · cases h3 : lsZ p q
            · rw [h1] at c1
              rw [h2] at c2
              rw [h3] at c3
              have hz := Lib.hid (hno.out (by rw [hdef.out, h1, h2, h3]; rfl))
              clear hno hyes hdef h1 h2 h3
              go_wp2_with fail
              go_quiet (first | (go_at_call 58; (first | rw [wD.out, wE.out] | rw [xD.out, xE.out]); exact Q1 _ _ c1) | (go_at_call 58; with_reducible exact Q2 _ _ c2) | (go_at_call 58; with_reducible exact Q3 _ _ c3))
              go_wp2
              go_ret
              exact ⟨by rw [hz.out]; rfl, grownBy_drewN (grownBy_trans G0.out HG.out) _⟩
            · rw [h1] at c1
              rw [h2] at c2
              rw [h3] at c3
              have hn := Lib.hid (hyes.out (by rw [hdef.out, h1, h2, h3]; rfl))
              clear hno hyes hdef h1 h2 h3
              go_wp2_with fail
              go_quiet (first | (go_at_call 58; (first | rw [wD.out, wE.out] | rw [xD.out, xE.out]); exact Q1 _ _ c1) | (go_at_call 58; with_reducible exact Q2 _ _ c2) | (go_at_call 58; with_reducible exact Q3 _ _ c3))
              go_wp2
              go_roundw
              case rel => exact ⟨k + 1, by omega, by go_num, hn.out, grownBy_drewN HG.out _⟩
              case measure => simp [intOf]; omega
      · obtain rfl : k = 81 := by omega
        have hz := Lib.hid (regB_end HT.out Hb.out)
        go_wp2_with fail
        refine c.mono ?_
        rintro e w2 ⟨rfl, g2⟩
        have hg2 := grownBy_trans hgr g2
        go_wp2_with fail
        go_ret
        exact ⟨by rw [hz.out]; rfl, grownBy_trans G0.out hg2⟩

end Go.Proofs.Ytbhfbpmfbknalaa
