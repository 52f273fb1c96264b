/-
  What the promises of chapter 5 ask of the plain numbers. No program is named.
-/
import Derived.Test.YtlnffpofbfigaaaGreatDoorAlw
namespace Go.Proofs.YtlnffpofbfigaaaGreatDoor

theorem nat_of {n : Int} (h : inB n 1 6 = true) : ∃ N : Nat, n = N ∧ 1 ≤ N ∧ N ≤ 6 := by
  have := inB_of h
  exact ⟨n.toNat, by omega, by omega, by omega⟩
theorem inB_nat {N : Nat} (h : 1 ≤ N ∧ N ≤ 6) : inB (N : Int) 1 6 = true := inB_t (by omega)

/-! P21 -/
theorem valI_low {N : Nat} {l : List UInt8} {t : Tr} (h : fOf l = some t) (hN : 1 ≤ N ∧ N ≤ 6) {a b c : Nat} (ha : a ≤ N) (hb : b ≤ N) (hc : c ≤ N) : lowU N t (cub N) ≤ valI N l a b c := by
  rw [valI_t h (thr_nat hN ha hb hc), ← atK_idx t ha hb hc]
  exact lowU_le N t (cub N) _ (idx_lt ha hb hc)
theorem val_mulN {q n a b c : Nat} (hn : 1 ≤ n ∧ n ≤ 6) (hq : 1 ≤ q * n ∧ q * n ≤ 6) (ha : a ≤ n) (hb : b ≤ n) (hc : c ≤ n) (t : Tr) :
    t.val ((q * n : Nat) : Int) ((q * a : Nat) : Int) ((q * b : Nat) : Int) ((q * c : Nat) : Int) = (q : Int) * t.val n a b c := by
  have q1 : 1 ≤ q := by
    rcases Nat.eq_zero_or_pos q with e | e
    · rw [e] at hq; omega
    · exact e
  have q6 : q ≤ 6 := Nat.le_trans (Nat.le_mul_of_pos_right q (by omega)) hq.2
  have hs := thr_nat hq (Nat.mul_le_mul_left q ha) (Nat.mul_le_mul_left q hb) (Nat.mul_le_mul_left q hc)
  simp only [Int.natCast_mul] at hs ⊢
  exact val_mul (by omega) (thr_nat hn ha hb hc) hs t
theorem low_twice {N : Nat} (t : Tr) (hN : 1 ≤ N ∧ 2 * N ≤ 6) : lowU (2 * N) t (cub (2 * N)) ≤ 2 * lowU N t (cub N) := by
  rcases lowU_some N t (cub N) with e | ⟨k, hk, e⟩
  · have := lowU_top (2 * N) t (cub (2 * N)); omega
  · have h1 := val_mulN (q := 2) (n := N) (by omega) (by omega) (tA_le N k) (tB_le N k) (tC_le N k) t
    have h2 := lowU_le (2 * N) t (cub (2 * N)) _ (idx_lt (n := 2 * N) (a := 2 * tA N k) (b := 2 * tB N k) (c := 2 * tC N k) (Nat.mul_le_mul_left 2 (tA_le N k)) (Nat.mul_le_mul_left 2 (tB_le N k)) (Nat.mul_le_mul_left 2 (tC_le N k)))
    rw [atK_idx t (Nat.mul_le_mul_left 2 (tA_le N k)) (Nat.mul_le_mul_left 2 (tB_le N k)) (Nat.mul_le_mul_left 2 (tC_le N k)), h1] at h2
    rw [e]
    exact h2

/-! P22 -/
theorem alw_div {n q : Nat} {t : Tr} (hn : 1 ≤ n) (hq : 1 ≤ q * n ∧ q * n ≤ 6) (h : alwT (q * n) t = true) : alwT n t = true := by
  have q1 : 1 ≤ q := by
    rcases Nat.eq_zero_or_pos q with e | e
    · rw [e] at hq; omega
    · exact e
  have n6 : n ≤ 6 := Nat.le_trans (Nat.le_mul_of_pos_left n (by omega)) hq.2
  refine alwT_mk fun k hk => ?_
  have h1 := val_mulN (q := q) (n := n) ⟨hn, n6⟩ hq (tA_le n k) (tB_le n k) (tC_le n k) t
  rw [alwT_val h (Nat.mul_le_mul_left q (tA_le n k)) (Nat.mul_le_mul_left q (tB_le n k)) (Nat.mul_le_mul_left q (tC_le n k)), Int.natCast_mul] at h1
  exact (Int.eq_of_mul_eq_mul_left (by omega) h1).symm
theorem alwB_div {N d : Nat} {l : List UInt8} (hd : 1 ≤ d) (hm : N % d = 0) (h : alwB N l = true) : alwB d l = true := by
  cases ho : fOf l with
  | none => rw [alwB_n ho] at h; cases h
  | some t =>
    cases hi : inB (N : Int) 1 6
    · rw [alwB_o hi] at h; cases h
    · have hN := inB_of hi
      obtain ⟨q, rfl⟩ : ∃ q, N = q * d := ⟨N / d, by have := Nat.div_add_mod N d; rw [hm, Nat.mul_comm] at this; omega⟩
      have hq : 1 ≤ q * d ∧ q * d ≤ 6 := by omega
      have q1 : 1 ≤ q := by
        rcases Nat.eq_zero_or_pos q with e | e
        · rw [e] at hq; omega
        · exact e
      have d6 : d ≤ 6 := Nat.le_trans (Nat.le_mul_of_pos_left d (by omega)) hq.2
      rw [alwB_t ho hi] at h
      rw [alwB_t ho (inB_nat ⟨hd, d6⟩)]
      exact alw_div hd hq h
theorem great_all {N : Nat} (hN : 1 ≤ N ∧ N ≤ 6) {t : Tr} (h : alwT N t = true) (u : Tr) : alwT N (.bin .great t u) = true := by
  refine alwT_mk fun k hk => ?_
  have h1 := alwT_of h hk
  have h2 := atK_ok hN u k
  have h3 := atK_ok hN t k
  have h4 := vokB_of h2
  show greatW N (atK N t k) (atK N u k) = N
  rw [great_raw h3 h2, h1]
  split <;> omega
theorem fol_all {N : Nat} (hN : 1 ≤ N ∧ N ≤ 6) (t : Tr) {u : Tr} (h : alwT N u = true) : alwT N (.bin .fol t u) = true := by
  refine alwT_mk fun k hk => ?_
  have h1 := alwT_of h hk
  have h2 := atK_ok hN u k
  have h3 := atK_ok hN t k
  have h4 := vokB_of h3
  show folW N (atK N t k) (atK N u k) = N
  rw [fol_raw h3 h2, h1]
  split <;> omega

/-! P24 -/
theorem fol_top {N : Nat} (hN : 1 ≤ N ∧ N ≤ 6) (t u : Tr) (k : Nat) : atK N (.bin .fol t u) k = N ↔ atK N t k ≤ atK N u k := by
  have h2 := atK_ok hN u k
  have h3 := atK_ok hN t k
  show folW N (atK N t k) (atK N u k) = N ↔ _
  rw [fol_raw h3 h2]
  split <;> omega
theorem same_both {N : Nat} (hN : 1 ≤ N ∧ N ≤ 6) (t u : Tr) : sameT N t u = (alwT N (.bin .fol t u) && alwT N (.bin .fol u t)) := by
  cases e : sameT N t u
  · cases e1 : alwT N (.bin .fol t u)
    · rfl
    · cases e2 : alwT N (.bin .fol u t)
      · rfl
      · have : sameT N t u = true := sameT_mk fun k hk => by
          have h1 := (fol_top hN t u k).1 (alwT_of e1 hk)
          have h2 := (fol_top hN u t k).1 (alwT_of e2 hk)
          omega
        rw [e] at this; cases this
  · rw [alwT_mk (t := .bin .fol t u) fun k hk => (fol_top hN t u k).2 (by rw [sameT_of e hk]; exact Int.le_refl _), alwT_mk (t := .bin .fol u t) fun k hk => (fol_top hN u t k).2 (by rw [sameT_of e hk]; exact Int.le_refl _)]
    rfl
theorem same_comm (N : Nat) (t u : Tr) : sameT N u t = sameT N t u := by
  cases e : sameT N t u
  · cases e1 : sameT N u t
    · rfl
    · have : sameT N t u = true := sameT_mk fun k hk => (sameT_of e1 hk).symm
      rw [e] at this; cases this
  · exact sameT_mk fun k hk => (sameT_of e hk).symm
theorem sameI_comm (n : Int) (l m : List UInt8) : sameI n m l = sameI n l m := by
  cases h : fOf l with
  | none => rw [sameI_n h, sameI_m h]
  | some t =>
    cases k : fOf m with
    | none => rw [sameI_n k, sameI_m k]
    | some u =>
      cases hi : inB n 1 6
      · rw [sameI_o hi, sameI_o hi]
      · obtain ⟨N, rfl, _⟩ := nat_of hi
        rw [sameI_t h k hi, sameI_t k h hi]
        exact same_comm N t u
theorem fOf_fol {l m : List UInt8} {t u : Tr} (h : fOf l = some t) (k : fOf m = some u) (hl : l.length + m.length + 3 ≤ 60) : fOf (40 :: (l ++ (62 :: (m ++ [41])))) = some (.bin .fol t u) := by
  obtain ⟨e1, _⟩ := fOf_some h
  obtain ⟨e2, _⟩ := fOf_some k
  have e : 40 :: (l ++ (62 :: (m ++ [41]))) = (Tr.bin .fol t u).txt := by rw [e1, e2]; rfl
  rw [e]
  refine fOf_txt ?_
  rw [bin_len, ← e1, ← e2]
  omega
theorem sameI_fol {n : Int} {l m : List UInt8} (hi : inB n 1 6 = true) (h : isF l = true) (k : isF m = true) (hl : l.length + m.length + 3 ≤ 60) :
    sameI n l m = (alwB n (40 :: (l ++ (62 :: (m ++ [41])))) && alwB n (40 :: (m ++ (62 :: (l ++ [41]))))) := by
  obtain ⟨t, h⟩ := isF_of h
  obtain ⟨u, k⟩ := isF_of k
  obtain ⟨N, rfl, hN⟩ := nat_of hi
  rw [sameI_t h k hi, alwB_t (fOf_fol h k hl) hi, alwB_t (fOf_fol k h (by omega)) hi]
  exact same_both hN t u

/-! P25, P26 -/
def axS (n : Int) : List UInt8 :=
  if n = 0 then [40, 97, 62, 40, 98, 62, 97, 41, 41]
  else if n = 1 then [40, 40, 97, 62, 98, 41, 62, 40, 40, 98, 62, 99, 41, 62, 40, 97, 62, 99, 41, 41, 41]
  else if n = 2 then [40, 40, 40, 97, 62, 98, 41, 62, 98, 41, 62, 40, 40, 98, 62, 97, 41, 62, 97, 41, 41]
  else if n = 3 then [40, 40, 33, 97, 62, 33, 98, 41, 62, 40, 98, 62, 97, 41, 41]
  else []
theorem axS_0 : chI (axS 0) = [1, 2, 3, 4, 5, 6] := by decide +kernel
theorem axS_1 : chI (axS 1) = [1, 2, 3, 4, 5, 6] := by decide +kernel
theorem axS_2 : chI (axS 2) = [1, 2, 3, 4, 5, 6] := by decide +kernel
theorem axS_3 : chI (axS 3) = [1, 2, 3, 4, 5, 6] := by decide +kernel
theorem third_ch : chI [40, 97, 124, 33, 97, 41] = [1] := by decide +kernel
theorem twice_ch : chI [40, 97, 62, 40, 97, 42, 97, 41, 41] = [1] := by decide +kernel
theorem thrice_ch : chI [40, 40, 97, 42, 97, 41, 62, 40, 40, 97, 42, 97, 41, 42, 97, 41, 41] = [1, 2] := by decide +kernel

theorem chI_mem {l : List UInt8} {x : Int} : x ∈ chI l ↔ (1 ≤ x ∧ x ≤ 6) ∧ alwB x l = true := by
  unfold chI
  rw [List.mem_filter]
  refine ⟨fun h => ⟨?_, h.2⟩, fun h => ⟨?_, h.2⟩⟩
  · have h1 := h.1
    simp at h1
    omega
  · simp
    omega
theorem chI_asc (l : List UInt8) : (chI l).Pairwise (· < ·) := by
  unfold chI
  exact List.Pairwise.filter _ (by decide)
theorem chI_div {l : List UInt8} {x : Int} (hx : x ∈ chI l) {d : Nat} (hd : 1 ≤ d) (hm : x % (d : Int) = 0) : (d : Int) ∈ chI l := by
  obtain ⟨h1, h2⟩ := chI_mem.1 hx
  obtain ⟨N, rfl⟩ : ∃ N : Nat, x = N := ⟨x.toNat, by omega⟩
  have hm' : N % d = 0 := by omega
  have h3 := alwB_div hd hm' h2
  refine chI_mem.2 ⟨?_, h3⟩
  have hle : d ≤ N := Nat.le_of_dvd (by omega) (Nat.dvd_of_mod_eq_zero hm')
  omega

end Go.Proofs.YtlnffpofbfigaaaGreatDoor
