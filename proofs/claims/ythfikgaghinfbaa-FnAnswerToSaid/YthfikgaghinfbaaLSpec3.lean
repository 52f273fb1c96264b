/-
  The model's l11Code and WeightOf.
-/
import Derived.Test.YthfikgaghinfbaaLSpec2
namespace Go.Proofs.Ythfikgaghinfbaa
open Go.RowKit

def cK (N : Nat) (row : List Int) : Nat → Nat
  | 0 => 0
  | k + 1 => cK N row k * (N + 1) + (row.getD k 0).toNat
theorem code_cK (N : Nat) (row : List Int) : codeL N row = cK N row row.length := by
  unfold codeL codeN
  have go : ∀ k, k ≤ row.length → ((natR row).take k).foldl (fun a x => a * (N + 1) + x) 0 = cK N row k := by
    intro k
    induction k with
    | zero => intro _; simp [cK]
    | succ k ih =>
      intro hk
      have a := ih (by omega)
      have c := nat_at row k
      rw [List.getD_eq_getElem?_getD, List.getElem?_eq_getElem (by rw [nat_len]; omega)] at c
      rw [List.take_succ_eq_append_getElem (by rw [nat_len]; omega), List.foldl_append, a]
      simp only [List.foldl_cons, List.foldl_nil]
      have c : (natR row)[k]'(by rw [nat_len]; omega) = (row.getD k 0).toNat := c
      rw [c]
      rfl
  have := go row.length (Nat.le_refl _)
  rw [List.take_of_length_le (by rw [nat_len]; omega)] at this
  exact this
theorem cK_le {N : Nat} {row : List Int} (h : gameB (N : Int) row = true) : ∀ k, k ≤ row.length → cK N row k < (N + 1) ^ k
  | 0, _ => by simp [cK]
  | k + 1, hk => by
    have a := cK_le h k (by omega)
    have b := (gameB_of h).2.2 k (by omega)
    have c : (row.getD k 0).toNat ≤ N := by omega
    show cK N row k * (N + 1) + (row.getD k 0).toNat < (N + 1) ^ (k + 1)
    rw [Nat.pow_succ]
    have d : (cK N row k + 1) * (N + 1) ≤ (N + 1) ^ k * (N + 1) := Nat.mul_le_mul_right _ a
    rw [Nat.add_mul] at d
    omega
theorem cK_64 {N : Nat} {row : List Int} (h : gameB (N : Int) row = true) {k : Nat} (hk : k ≤ row.length) : cK N row k ≤ 63 := by
  have a := cK_le h k hk
  obtain ⟨h1, h2, _⟩ := gameB_of h
  have : (N + 1) ^ k ≤ 4 ^ 3 := Nat.le_trans (Nat.pow_le_pow_left (by omega) k) (Nat.pow_le_pow_right (by omega) (by omega))
  omega
def CodeRel (N : Nat) (xs : List Int) (w : World) (v i : Value) (wr : World) : Prop := ∃ k : Nat, k ≤ xs.length ∧ v = .int .i64 (cK N xs k : Nat) ∧ i = .int .i64 k ∧ w = wr

set_option maxHeartbeats 1000000 in
theorem slcode_any (N : Nat) (a : Option Addr) (cap : Nat) (xs : List Int) (w : World) (h : IntsAt w a xs) (hg : gameB (N : Int) xs = true) :
    Calls Try.prog 62 #[.int .i64 N, .slice a xs.length cap] w fun e w' => e = .returned (.int .i64 (codeL N xs : Nat)) ∧ w = w' := by
  rw [code_cK]
  have hN : N = 1 ∨ N = 2 ∨ N = 3 := by have := (gameB_of hg).1; omega
  have hl3 := (gameB_of hg).2.1.2
  have HX := Lib.hid (gameB_of hg).2.2
  have HC := Lib.hid (fun (k : Nat) (hk : k ≤ xs.length) => cK_64 hg hk)
  have H := Lib.hid h
  clear h hg
  rcases hN with rfl | rfl | rfl
  · go_enter Try.func62, Try.ntmps62
    go_wp2_with fail
    go_loopw [5, 6] (fun v i wr => CodeRel 1 xs w v i wr) (fun _ i _ => xs.length - (intOf i).toNat)
    case atStart => exact ⟨0, by omega, rfl, rfl, rfl⟩
    case round =>
      obtain ⟨k, hk, rfl, rfl, rfl⟩ := hrel
      by_cases hlt : k < xs.length
      · rcases H.out.2 with h0 | ⟨bx, ox, rfl, hbx, hcx⟩
        · rw [h0] at hlt; simp at hlt
        have hc := hcx k hlt
        have hb := HC.out k hk
        have hq := HX.out k hlt
        have hs := Lib.hid (show cK 1 xs (k + 1) = cK 1 xs k * (1 + 1) + (xs.getD k 0).toNat from rfl)
        clear hcx hbx
        generalize xs.getD k 0 = q at *
        generalize cK 1 xs k = C at *
        go_wp2_with fail
        go_roundw
        case rel => exact ⟨k + 1, by omega, by rw [hs.out]; refine congrArg (Value.int .i64) ?_; omega, by go_num, rfl⟩
        case measure => simp [intOf]; omega
      · obtain rfl : k = xs.length := by omega
        go_wp2_with fail
        go_ret
        exact ⟨rfl, rfl⟩
  · go_enter Try.func62, Try.ntmps62
    go_wp2_with fail
    go_loopw [5, 6] (fun v i wr => CodeRel 2 xs w v i wr) (fun _ i _ => xs.length - (intOf i).toNat)
    case atStart => exact ⟨0, by omega, rfl, rfl, rfl⟩
    case round =>
      obtain ⟨k, hk, rfl, rfl, rfl⟩ := hrel
      by_cases hlt : k < xs.length
      · rcases H.out.2 with h0 | ⟨bx, ox, rfl, hbx, hcx⟩
        · rw [h0] at hlt; simp at hlt
        have hc := hcx k hlt
        have hb := HC.out k hk
        have hq := HX.out k hlt
        have hs := Lib.hid (show cK 2 xs (k + 1) = cK 2 xs k * (2 + 1) + (xs.getD k 0).toNat from rfl)
        clear hcx hbx
        generalize xs.getD k 0 = q at *
        generalize cK 2 xs k = C at *
        go_wp2_with fail
        go_roundw
        case rel => exact ⟨k + 1, by omega, by rw [hs.out]; refine congrArg (Value.int .i64) ?_; omega, by go_num, rfl⟩
        case measure => simp [intOf]; omega
      · obtain rfl : k = xs.length := by omega
        go_wp2_with fail
        go_ret
        exact ⟨rfl, rfl⟩
  · go_enter Try.func62, Try.ntmps62
    go_wp2_with fail
    go_loopw [5, 6] (fun v i wr => CodeRel 3 xs w v i wr) (fun _ i _ => xs.length - (intOf i).toNat)
    case atStart => exact ⟨0, by omega, rfl, rfl, rfl⟩
    case round =>
      obtain ⟨k, hk, rfl, rfl, rfl⟩ := hrel
      by_cases hlt : k < xs.length
      · rcases H.out.2 with h0 | ⟨bx, ox, rfl, hbx, hcx⟩
        · rw [h0] at hlt; simp at hlt
        have hc := hcx k hlt
        have hb := HC.out k hk
        have hq := HX.out k hlt
        have hs := Lib.hid (show cK 3 xs (k + 1) = cK 3 xs k * (3 + 1) + (xs.getD k 0).toNat from rfl)
        clear hcx hbx
        generalize xs.getD k 0 = q at *
        generalize cK 3 xs k = C at *
        go_wp2_with fail
        go_roundw
        case rel => exact ⟨k + 1, by omega, by rw [hs.out]; refine congrArg (Value.int .i64) ?_; omega, by go_num, rfl⟩
        case measure => simp [intOf]; omega
      · obtain rfl : k = xs.length := by omega
        go_wp2_with fail
        go_ret
        exact ⟨rfl, rfl⟩

/-! Weights. -/

theorem wV_le {q : Nat} (hq : q ≤ 12) : ∀ x, x ≤ 12 → wV q x ≤ x * 4096
  | 0, _ => by simp [wV]
  | x + 1, hx => by
    have a := wV_le hq x (by omega)
    have b := ch_le (n := q) (k := x) hq (by omega)
    show wV q x + chN q x ≤ (x + 1) * 4096
    omega
theorem wK_le {n : Int} {row : List Int} (h : gameB n row = true) {q : Nat} (hq : q ≤ 12) : ∀ k, k ≤ row.length → wK row q k ≤ k * 12288
  | 0, _ => by simp [wK]
  | k + 1, hk => by
    obtain ⟨h1, _, h3⟩ := gameB_of h
    have a := wK_le h hq k (by omega)
    have b := h3 k (by omega)
    have c := wV_le hq (row.getD k 0).toNat (by omega)
    show wK row q k + wV q (row.getD k 0).toNat ≤ (k + 1) * 12288
    omega
def weightW (n : Int) (xs : List Int) (q : Int) : Int := if gameB n xs = true ∧ inB q 0 12 = true then (weightL xs q.toNat : Nat) else -1
def WeiRel (Q : Nat) (xs : List Int) (w : World) (v i : Value) (wr : World) : Prop := ∃ k : Nat, k ≤ xs.length ∧ v = .int .i64 (wK xs Q k : Nat) ∧ i = .int .i64 k ∧ w = wr
def WeiIn (S Q X : Nat) (w : World) (v i : Value) (wr : World) : Prop := ∃ l : Nat, l ≤ X ∧ v = .int .i64 (S + wV Q l : Nat) ∧ i = .int .i64 l ∧ w = wr

set_option maxHeartbeats 2000000 in
theorem sweight_any (n : Int) (a : Option Addr) (cap : Nat) (xs : List Int) (q : Int) (w : World) (h : IntsAt w a xs) :
    Calls Try.prog 31 #[.int .i64 n, .slice a xs.length cap, .int .i64 q] w fun e w' => e = .returned (.int .i64 (weightW n xs q)) ∧ w = w' := by
  have cg := sgame_any n a cap xs w h
  have H := Lib.hid h
  clear h
  cases hg : gameB n xs
  · have hz : Hid (weightW n xs q = -1) := if_neg (by rw [hg]; simp)
    rw [hg] at cg
    go_enter Try.func31, Try.ntmps31
    go_wp2_with fail
    refine cg.mono ?_
    rintro e w' ⟨rfl, rfl⟩
    clear cg
    go_wp2_with fail
    go_ret
    exact ⟨by rw [hz.out]; rfl, rfl⟩
  · rw [hg] at cg
    cases hs : inB q 0 12
    · have hz : Hid (weightW n xs q = -1) := if_neg (by rw [hs]; simp)
      go_enter Try.func31, Try.ntmps31
      go_wp2_with fail
      refine cg.mono ?_
      rintro e w' ⟨rfl, rfl⟩
      clear cg
      go_wp2_with fail
      refine (in_any q 0 12 _).mono ?_
      rw [hs]
      rintro e w' ⟨rfl, rfl⟩
      go_wp2_with fail
      go_ret
      exact ⟨by rw [hz.out]; rfl, rfl⟩
    · obtain ⟨Q, rfl⟩ := Int.eq_ofNat_of_zero_le (inB_of hs).1
      have hQ : Q ≤ 12 := by have := inB_of hs; omega
      have hz : Hid (weightW n xs (Q : Int) = (wK xs Q xs.length : Nat)) := if_pos ⟨hg, hs⟩
      have hl3 := (gameB_of hg).2.1.2
      have HX := Lib.hid (fun (k : Nat) (hk : k < xs.length) => (⟨((gameB_of hg).2.2 k hk).1, by have := (gameB_of hg).2.2 k hk; have := (gameB_of hg).1; omega⟩ : 0 ≤ xs.getD k 0 ∧ xs.getD k 0 ≤ 3))
      have HK := Lib.hid (fun (k : Nat) (hk : k ≤ xs.length) => wK_le hg hQ k hk)
      have HV := Lib.hid (fun (x : Nat) (hx : x ≤ 12) => wV_le hQ x hx)
      have HS := Lib.hid hs
      go_enter Try.func31, Try.ntmps31
      go_wp2_with fail
      refine cg.mono ?_
      rintro e w' ⟨rfl, rfl⟩
      clear cg hg
      go_wp2_with fail
      refine (in_any (Q : Int) 0 12 _).mono ?_
      rw [HS.out]
      rintro e w' ⟨rfl, rfl⟩
      clear hs
      go_wp2_with fail
      go_loopw [7, 8] (fun v i wr => WeiRel Q xs w v i wr) (fun _ i _ => xs.length - (intOf i).toNat)
      case atStart => exact ⟨0, by omega, rfl, rfl, rfl⟩
      case round =>
        obtain ⟨k, hk, rfl, rfl, rfl⟩ := hrel
        by_cases hlt : k < xs.length
        · rcases H.out.2 with h0 | ⟨bx, ox, rfl, hbx, hcx⟩
          · rw [h0] at hlt; simp at hlt
          have hc := hcx k hlt
          have hq := HX.out k hlt
          have hb := HK.out k hk
          have hst : Hid (wK xs Q (k + 1) = wK xs Q k + wV Q (xs.getD k 0).toNat) := rfl
          clear hcx hbx
          obtain ⟨X, hX⟩ := Int.eq_ofNat_of_zero_le hq.1
          rw [hX] at hc hq
          have hst2 : Hid (wK xs Q (k + 1) = wK xs Q k + wV Q X) := by unfold Hid; rw [hst.out, hX]; rfl
          have hX3 : X ≤ 3 := by omega
          clear hX hq hst
          generalize wK xs Q k = S at *
          go_wp2_with fail
          go_loopw [7, 9] (fun v i wr => WeiIn S Q X w v i wr) (fun _ i _ => X - (intOf i).toNat)
          case atStart => exact ⟨0, by omega, rfl, rfl, rfl⟩
          case round =>
            obtain ⟨l, hl, rfl, rfl, rfl⟩ := hrel
            by_cases hlx : l < X
            · have c1 := sch_any Q hQ l (by omega) w
              have b1 := HV.out l (by omega)
              have b2 := ch_le (n := Q) (k := l) hQ (by omega)
              have hs2 : Hid (wV Q (l + 1) = wV Q l + chN Q l) := rfl
              generalize wV Q l = V at *
              generalize chN Q l = D at *
              go_wp2_with fail
              refine c1.mono ?_
              rintro e w' ⟨rfl, rfl⟩
              clear c1
              go_wp2_with fail
              go_roundw
              case rel => exact ⟨l + 1, by omega, by rw [hs2.out]; refine congrArg (Value.int .i64) ?_; omega, by go_num, rfl⟩
              case measure => simp [intOf]; omega
            · obtain rfl : l = X := by omega
              go_wp2_with fail
              go_roundw
              case rel => exact ⟨k + 1, by omega, by rw [hst2.out], by go_num, rfl⟩
              case measure => simp [intOf]; omega
        · obtain rfl : k = xs.length := by omega
          go_wp2_with fail
          go_ret
          exact ⟨by rw [hz.out]; rfl, rfl⟩

end Go.Proofs.Ythfikgaghinfbaa
