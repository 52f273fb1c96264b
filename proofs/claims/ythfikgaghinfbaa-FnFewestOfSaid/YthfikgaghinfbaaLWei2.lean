/-
  impl's WeightOf. No condition.
-/
import Derived.Test.YthfikgaghinfbaaLWei
namespace Go.Proofs.Ythfikgaghinfbaa
open Go.RowKit

def LwoRel (xs : List Int) (P : Nat) (w : World) (v i : Value) (wr : World) : Prop := ∃ m : Nat, m ≤ P ∧ v = .int .i64 (cnS xs m xs.length : Nat) ∧ i = .int .i64 m ∧ w.grownBy wr none
def LwiRel (xs : List Int) (m B : Nat) (w : World) (v i : Value) (wr : World) : Prop := ∃ k : Nat, k ≤ xs.length ∧ v = .int .i64 (B + cnT xs m k : Nat) ∧ i = .int .i64 k ∧ w.grownBy wr none
theorem pow_sh {q : Nat} (hq : q ≤ 12) : wrap64 (2 ^ q) = ((2 ^ q : Nat) : Int) ∧ IntKind.i64.wrap (2 ^ q) = ((2 ^ q : Nat) : Int) ∧ (1 : Nat) ≤ 2 ^ q ∧ 2 ^ q ≤ 4096 := by
  have h1 : 2 ^ q ≤ 2 ^ 12 := Nat.pow_le_pow_right (by omega) hq
  have h2 : 1 ≤ 2 ^ q := Nat.pow_pos (by omega)
  have e : (2 : Int) ^ q = ((2 ^ q : Nat) : Int) := by push_cast; rfl
  rw [e]
  generalize 2 ^ q = P at *
  exact ⟨by unfold wrap64; omega, IntWalk.i64_in _ (by omega), h2, by omega⟩

set_option maxHeartbeats 2000000 in
theorem iweight_any (n : Int) (a : Option Addr) (cap : Nat) (xs : List Int) (q : Int) (w : World) (h : IntsAt w a xs) :
    Calls Try.prog 30 #[.int .i64 n, .slice a xs.length cap, .int .i64 q] w fun e w' => e = .returned (.int .i64 (weightW n xs q)) ∧ w.grownBy w' none := by
  have cg := iques_any n a cap xs q w h
  have hm := h.1
  unfold maxLen at hm
  have H := Lib.hid h
  clear h
  cases hg : (gameB n xs && inB q 0 12)
  · have hz : Hid (weightW n xs q = -1) := if_neg (by intro e; rw [e.1, e.2] at hg; cases hg)
    rw [hg] at cg
    go_enter Try.func30, Try.ntmps30
    go_wp2_with fail
    refine cg.mono ?_
    rintro e w' ⟨rfl, g1⟩
    clear cg
    go_wp2_with fail
    go_ret
    exact ⟨by rw [hz.out]; rfl, g1⟩
  · rw [hg] at cg
    rw [Bool.and_eq_true] at hg
    obtain ⟨hg, hs⟩ := hg
    obtain ⟨Q, rfl⟩ := Int.eq_ofNat_of_zero_le (inB_of hs).1
    have hQ : Q ≤ 12 := by have := inB_of hs; omega
    have hz : Hid (weightW n xs (Q : Int) = (wK xs Q xs.length : Nat)) := if_pos ⟨hg, hs⟩
    have hl3 := (gameB_of hg).2.1.2
    have HX := Lib.hid (fun (k : Nat) (hk : k < xs.length) => (⟨((gameB_of hg).2.2 k hk).1, by have := (gameB_of hg).2.2 k hk; have := (gameB_of hg).1; omega⟩ : 0 ≤ xs.getD k 0 ∧ xs.getD k 0 ≤ 3))
    have HE := Lib.hid (cn_end (row := xs) hQ xs.length)
    have HN := Lib.hid (fun m => cn_next (row := xs) (fun k hk => (HX.out k hk).1) m xs.length (Nat.le_refl _))
    have HS := Lib.hid (cnS_le xs)
    have HT := Lib.hid (cnT_le xs)
    have H0 := Lib.hid (cn_none xs xs.length)
    obtain ⟨p1, p2, p3, p4⟩ := pow_sh hQ
    have q0 : (0 : Int) ≤ (Q : Int) := by omega
    have q12 : (Q : Int) ≤ 12 := by omega
    clear hg hs hQ
    generalize 2 ^ Q = P at *
    go_enter Try.func30, Try.ntmps30
    go_wp2_with fail
    refine cg.mono ?_
    rintro e w1 ⟨rfl, g1⟩
    clear cg
    go_wp2_with fail
    go_loopw [7, 18] (fun v i wr => LwoRel xs P w v i wr) (fun _ i _ => P - (intOf i).toNat)
    case atStart => exact ⟨0, by omega, by rw [H0.out]; rfl, rfl, g1⟩
    case round =>
      obtain ⟨m, hmP, rfl, rfl, hgr⟩ := hrel
      by_cases hlt : m < P
      · have b1 := HS.out m xs.length
        have b0 : xs.length * m ≤ 3 * 4096 := Nat.mul_le_mul (by omega) (by omega)
        have hnx := Lib.hid (HN.out m)
        have b2 : cnS xs m xs.length ≤ 12288 := by omega
        have co := fun w => lones_any m (by omega) w
        have hpu : IntKind.u64.wrap (m : Int) = (m : Int) := by rw [IntKind.wrap_u64]; omega
        clear b1 b0
        generalize cnS xs m xs.length = B at *
        obtain ⟨pm, hpm⟩ : ∃ pm, pop m = pm := ⟨_, rfl⟩
        have HPM := Lib.hid hpm
        rw [hpm] at co
        clear hpm
        go_wp2_with fail
        go_loopw [7, 23] (fun v i wr => LwiRel xs m B w v i wr) (fun _ i _ => xs.length - (intOf i).toNat)
        case atStart => exact ⟨0, by omega, rfl, rfl, hgr⟩
        case round =>
          obtain ⟨k, hk, rfl, rfl, hgr2⟩ := hrel
          by_cases hkl : k < xs.length
          · rcases (H.out.grown hgr2).2 with h0 | ⟨bx, ox, rfl, hbx, hcx⟩
            · rw [h0] at hkl; simp at hkl
            have hc := hcx k hkl
            have b3 := HT.out m k
            have hst : Hid (cnT xs m (k + 1) = cnT xs m k + (if (pm : Int) < xs.getD k 0 then 1 else 0)) := by rw [← HPM.out]; exact rfl
            clear hcx hbx
            generalize xs.getD k 0 = x at *
            generalize cnT xs m k = T at *
            by_cases hx : (pm : Int) < x
            · have hs2 : Hid (cnT xs m (k + 1) = T + 1) := by unfold Hid; rw [hst.out, if_pos hx]
              go_wp2_with (go_at_call 56; refine (co _).mono ?_; rintro e w' ⟨rfl, rfl⟩)
              go_roundw
              case rel => exact ⟨k + 1, by omega, by rw [hs2.out]; refine congrArg (Value.int .i64) ?_; omega, by go_num, hgr2⟩
              case measure => simp [intOf]; omega
            · have hs2 : Hid (cnT xs m (k + 1) = T) := by unfold Hid; rw [hst.out, if_neg hx]; rfl
              go_wp2_with (go_at_call 56; refine (co _).mono ?_; rintro e w' ⟨rfl, rfl⟩)
              go_roundw
              case rel => exact ⟨k + 1, by omega, by rw [hs2.out]; refine congrArg (Value.int .i64) ?_; omega, by go_num, hgr2⟩
              case measure => simp [intOf]; omega
          · obtain rfl : k = xs.length := by omega
            go_wp2_with fail
            go_roundw
            case rel => exact ⟨m + 1, by omega, by rw [hnx.out], by go_num, hgr2⟩
            case measure => simp [intOf]; omega
      · obtain rfl : m = P := by omega
        go_wp2_with fail
        go_ret
        exact ⟨by rw [hz.out, ← HE.out]; rfl, hgr⟩

end Go.Proofs.Ythfikgaghinfbaa
