/-
  What the program's own readers of deeds and numbers make of a text, as plain lists of bytes. No program is named.
-/
import Derived.Test.YtlnffpofbfigaaaGreatDoorM2359aa93
import Derived.Lib.IndexMore
import Derived.Lib.AtoiAll
import Derived.Lib.ItoaNum
namespace Go.Proofs.YtlnffpofbfigaaaGreatDoor

/-! A text cut at one byte. -/
theorem index_miss {c : UInt8} : ∀ {l : List UInt8}, (∀ d ∈ l, d ≠ c) → Lib.index l [c] = -1
  | [], _ => rfl
  | b :: l, h => by
    have hb : ([c] : List UInt8).isPrefixOf (b :: l) = false := by
      have : (c == b) = false := beq_eq_false_iff_ne.2 fun e => h b (by simp) e.symm
      simp [List.isPrefixOf, this]
    unfold Lib.index
    rw [hb, index_miss (l := l) fun d hd => h d (by simp [hd])]
    rfl
theorem index_hit {c : UInt8} (r : List UInt8) : ∀ {t : List UInt8}, (∀ d ∈ t, d ≠ c) → Lib.index (t ++ c :: r) [c] = t.length
  | [], _ => by
    show Lib.index (c :: r) [c] = 0
    unfold Lib.index
    simp [List.isPrefixOf]
  | b :: t, h => by
    have hb : ([c] : List UInt8).isPrefixOf (b :: (t ++ c :: r)) = false := by
      have : (c == b) = false := beq_eq_false_iff_ne.2 fun e => h b (by simp) e.symm
      simp [List.isPrefixOf, this]
    show Lib.index (b :: (t ++ c :: r)) [c] = _
    unfold Lib.index
    rw [hb, index_hit r (t := t) fun d hd => h d (by simp [hd])]
    have : ((t.length : Int) == -1) = false := beq_eq_false_iff_ne.2 (by omega)
    rw [this]
    show (t.length : Int) + 1 = ((t.length + 1 : Nat) : Int)
    omega
theorem cut_miss {l : List UInt8} {c : UInt8} (h : ∀ d ∈ l, d ≠ c) : Lib.cut l [c] = (l, [], false) := by
  unfold Lib.cut
  rw [index_miss h]; rfl
theorem cut_hit {t : List UInt8} {c : UInt8} (r : List UInt8) (h : ∀ d ∈ t, d ≠ c) : Lib.cut (t ++ c :: r) [c] = (t, r, true) := by
  unfold Lib.cut
  rw [index_hit r h, if_pos (by omega)]
  have e : (t.length : Int).toNat = t.length := by omega
  rw [e, List.take_left, show t.length + [c].length = t.length + 1 from rfl]
  have : (t ++ c :: r).drop (t.length + 1) = r := by
    rw [List.drop_append, List.drop_of_length_le (by omega), show t.length + 1 - t.length = 1 by omega]; rfl
  rw [this]
theorem cut_ways (c : UInt8) : ∀ (l : List UInt8), (∀ d ∈ l, d ≠ c) ∨ ∃ t r, l = t ++ c :: r ∧ ∀ d ∈ t, d ≠ c
  | [] => .inl (by simp)
  | b :: l => by
    by_cases hb : b = c
    · exact .inr ⟨[], l, by rw [hb]; rfl, by simp⟩
    · rcases cut_ways c l with h | ⟨t, r, rfl, h⟩
      · exact .inl fun d hd => by
          rcases List.mem_cons.1 hd with rfl | hd
          · exact hb
          · exact h d hd
      · exact .inr ⟨b :: t, r, rfl, fun d hd => by
          rcases List.mem_cons.1 hd with rfl | hd
          · exact hb
          · exact h d hd⟩
theorem cut_len (l : List UInt8) (c : UInt8) : (Lib.cut l [c]).1.length ≤ l.length ∧ (Lib.cut l [c]).2.1.length ≤ l.length := by
  rcases cut_ways c l with h | ⟨t, r, rfl, h⟩
  · rw [cut_miss h]; simp
  · rw [cut_hit r h]; simp; omega

/-! Numbers of one or two digits. -/
theorem itoa_dec {k : Nat} (h : k < 100) : Lib.itoa (k : Int) = decL k := by
  unfold Lib.itoa
  rw [if_neg (by omega), Int.toNat_natCast]
  by_cases h10 : k < 10
  · rw [Lib.decDigits_one h10, decL_small h10]
  · rw [Lib.decDigits_two h10 h, decL_great h10, decL_small (by omega)]; rfl
def numI (s : List UInt8) : Int :=
  match Lib.atoiAll s with
  | .ok v => if 0 ≤ v ∧ v ≤ 99 ∧ Lib.itoa v = s then v else -1
  | _ => -1
theorem dig_dec : ∀ k, k < 100 → digI (decL k) = (k : Int) := by decide +kernel
theorem ato_dec : ∀ k, k < 100 → Lib.atoiAll (decL k) = .ok (k : Int) := by decide +kernel
theorem dig_of {s : List UInt8} (h : 0 ≤ digI s) : ∃ k, k < 100 ∧ s = decL k ∧ digI s = (k : Int) := by
  have two : ∀ c, isD c = true → ∃ j : Nat, j < 10 ∧ c = UInt8.ofNat (48 + j) ∧ digV c = j := by
    intro c hc
    have := inB_of hc
    unfold digV at this
    refine ⟨c.toNat - 48, by omega, ?_, by unfold digV; omega⟩
    rw [show 48 + (c.toNat - 48) = c.toNat by omega, UInt8.ofNat_toNat]
  match s, h with
  | [], h => rw [digI_nil] at h; omega
  | [c], h =>
    cases hc : isD c with
    | false => rw [digI_one_no hc] at h; omega
    | true =>
      obtain ⟨j, hj, rfl, hv⟩ := two c hc
      exact ⟨j, by omega, (decL_small hj).symm, by rw [digI_one hc, hv]⟩
  | [c, d], h =>
    by_cases hq : isD c = true ∧ isD d = true ∧ c ≠ 48
    · obtain ⟨hc, hd, hz⟩ := hq
      obtain ⟨i, hi, rfl, hv⟩ := two c hc
      obtain ⟨j, hj, rfl, hw⟩ := two d hd
      have hi0 : i ≠ 0 := fun e => hz (by rw [e]; rfl)
      refine ⟨10 * i + j, by omega, ?_, by rw [digI_two hc hd hz, hv, hw]; omega⟩
      rw [decL_great (by omega), show (10 * i + j) / 10 = i by omega, show (10 * i + j) % 10 = j by omega, decL_small hi]; rfl
    · have : digI [c, d] = -1 := digI_two_no (by
        cases hc : isD c with
        | false => exact .inl rfl
        | true =>
          cases hd : isD d with
          | false => exact .inr (.inl rfl)
          | true => exact .inr (.inr (Classical.byContradiction fun hz => hq ⟨hc, hd, hz⟩)))
      rw [this] at h; omega
  | c :: d :: e :: r, h => rw [digI_long (by simp)] at h; omega
theorem num_dig (s : List UInt8) : numI s = digI s := by
  by_cases h : 0 ≤ digI s
  · obtain ⟨k, hk, hs, hd⟩ := dig_of h
    rw [hd, hs]
    unfold numI
    rw [ato_dec k hk]
    exact if_pos ⟨by omega, by omega, itoa_dec hk⟩
  · have hd : digI s = -1 := by have := (digI_le s).1; omega
    rw [hd]
    unfold numI
    cases e : Lib.atoiAll s with
    | ok v =>
      simp only []
      by_cases q : 0 ≤ v ∧ v ≤ 99 ∧ Lib.itoa v = s
      · exfalso
        obtain ⟨q0, q1, q2⟩ := q
        obtain ⟨k, rfl⟩ := Int.eq_ofNat_of_zero_le q0
        rw [itoa_dec (by omega)] at q2
        rw [← q2, dig_dec k (by omega)] at h
        omega
      · rw [if_neg q]
    | range => rfl
    | _ => rfl
theorem numI_one {k : Nat} (h : k ≤ 9) : numI [UInt8.ofNat (48 + k)] = (k : Int) := by
  rw [num_dig, ← decL_small (by omega), dig_dec k (by omega)]

/-! The words of deeds. -/
def wordsL : List (List UInt8) := [[99, 104, 97, 105, 110], [115, 97, 121], [110, 111, 116], [116, 105, 109, 101, 115], [105, 102], [98, 97, 115, 105, 99], [98, 97, 99, 107]]
def kindF : Int → List (List UInt8) → List UInt8 → Int
  | _, [], _ => -1
  | k, t :: l, w => if t = w then k else kindF (k + 1) l w
def kindI (w : List UInt8) : Int := kindF 0 wordsL w
theorem kindF_at : ∀ (l : List (List UInt8)) (k : Int) (w : List UInt8) (i : Nat), (∀ j, j < i → l.getD j [] ≠ w) → i < l.length → l.getD i [] = w → kindF k l w = k + i
  | [], _, _, _, _, h, _ => absurd h (by simp)
  | t :: l, k, w, 0, _, _, h => by show (if t = w then k else kindF (k + 1) l w) = _; rw [if_pos (show t = w from h)]; simp
  | t :: l, k, w, i + 1, hb, hi, h => by
    show (if t = w then k else kindF (k + 1) l w) = _
    rw [if_neg (show ¬ t = w from hb 0 (by omega)), kindF_at l (k + 1) w i (fun j hj => hb (j + 1) (by omega)) (by simpa using hi) h]
    omega
theorem kindF_no : ∀ (l : List (List UInt8)) (k : Int) (w : List UInt8), (∀ j, j < l.length → l.getD j [] ≠ w) → kindF k l w = -1
  | [], _, _, _ => rfl
  | t :: l, k, w, h => by
    show (if t = w then k else kindF (k + 1) l w) = _
    rw [if_neg (show ¬ t = w from h 0 (by simp)), kindF_no l (k + 1) w fun j hj => h (j + 1) (by simpa using hj)]
theorem kindI_at {w : List UInt8} {i : Nat} (hb : ∀ j, j < i → wordsL.getD j [] ≠ w) (hi : i < 7) (h : wordsL.getD i [] = w) : kindI w = i := by
  have := kindF_at wordsL 0 w i hb hi h
  unfold kindI; omega
theorem kindI_no {w : List UInt8} (h : ∀ j, j < 7 → wordsL.getD j [] ≠ w) : kindI w = -1 := kindF_no wordsL 0 w h
/-- What the program's own reader makes of a text. -/
def wroteA (s : List UInt8) : Dd := if kindI (Lib.cut s [32]).1 = 0 then (0, numI (Lib.cut s [32]).2.1, []) else (kindI (Lib.cut s [32]).1, 0, (Lib.cut s [32]).2.1)
theorem told_wrote {s : List UInt8} {a : Dd} (h : Told a s) : wroteA s = a := by
  have f : ∀ (p t : List UInt8) (k : Int), (∀ d ∈ p, d ≠ (32 : UInt8)) → kindI p = k → wroteA (p ++ 32 :: t) = (if k = 0 then (0, numI t, []) else (k, 0, t)) := by
    intro p t k hp hk
    unfold wroteA
    rw [cut_hit t hp, hk]
  have g : ∀ (p : List UInt8) (k : Int), (∀ d ∈ p, d ≠ (32 : UInt8)) → kindI p = k → wroteA p = (if k = 0 then (0, numI [], []) else (k, 0, [])) := by
    intro p k hp hk
    unfold wroteA
    rw [cut_miss hp, hk]
  cases h with
  | chain k hk =>
    have := f [99, 104, 97, 105, 110] [UInt8.ofNat (48 + k)] 0 (by decide) (by decide)
    rw [if_pos rfl, numI_one hk] at this
    exact this
  | say t ht => exact f [115, 97, 121] t 1 (by decide) (by decide)
  | times t ht => exact f [116, 105, 109, 101, 115] t 3 (by decide) (by decide)
  | ifs t ht => exact f [105, 102] t 4 (by decide) (by decide)
  | nots => exact g notD 2 (by decide) (by decide)
  | basic => exact g basicD 5 (by decide) (by decide)
  | back => exact g backD 6 (by decide) (by decide)
theorem wrote_yes {s : List UInt8} (h0 : s ≠ []) (h : txD (wroteA s) = s) : rdD s = some (wroteA s) := by
  have := rd_tx (a := wroteA s) (by rw [h]; exact h0)
  rwa [h] at this
theorem wrote_no {s : List UInt8} (h : s = [] ∨ txD (wroteA s) ≠ s) : rdD s = none := by
  refine rdD_none fun a ha => ?_
  rcases h with h | h
  · exact told_pos ha h
  · rw [told_wrote ha] at h
    exact h (tx_told ha)

/-- The deeds among which the model looks for the one of a text. -/
def candT (ws : List (List UInt8)) : List Dd :=
  match ws with
  | [_, t] => [(0, digI t, []), (1, 0, t), (3, 0, t), (4, 0, t)]
  | _ => []
def cand3 : List Dd := [(2, 0, []), (5, 0, []), (6, 0, [])]
def candL (s : List UInt8) : List Dd := cand3 ++ candT (cutL 32 s)
theorem cand_told {s : List UInt8} {a : Dd} (h : Told a s) : a ∈ candL s := by
  have f : ∀ (p t : List UInt8), (∀ d ∈ p, d ≠ (32 : UInt8)) → (∀ d ∈ t, d ≠ (32 : UInt8)) → candL (p ++ 32 :: t) = cand3 ++ [(0, digI t, []), (1, 0, t), (3, 0, t), (4, 0, t)] := by
    intro p t hp ht
    unfold candL
    rw [cutL_more t hp, cutL_one ht]; rfl
  cases h with
  | chain k hk =>
    have e := f [99, 104, 97, 105, 110] [UInt8.ofNat (48 + k)] (by decide) (by intro d hd; rw [List.mem_singleton] at hd; rw [hd]; exact (dig_sp hk).1)
    show _ ∈ candL ([99, 104, 97, 105, 110] ++ 32 :: [UInt8.ofNat (48 + k)])
    rw [e, ← decL_small (show k < 10 by omega), dig_dec k (by omega)]
    simp
  | say t ht =>
    show _ ∈ candL ([115, 97, 121] ++ 32 :: t)
    rw [f _ t (by decide) fun d hd => (isF_noSp ht d hd).1]; simp
  | times t ht =>
    show _ ∈ candL ([116, 105, 109, 101, 115] ++ 32 :: t)
    rw [f _ t (by decide) fun d hd => (isF_noSp ht d hd).1]; simp
  | ifs t ht =>
    show _ ∈ candL ([105, 102] ++ 32 :: t)
    rw [f _ t (by decide) fun d hd => (isF_noSp ht d hd).1]; simp
  | nots => unfold candL cand3; simp
  | basic => unfold candL cand3; simp
  | back => unfold candL cand3; simp
theorem cand_yes {s : List UInt8} {a : Dd} (h0 : s ≠ []) (h : txD a = s) : rdD s = some a := by
  have := rd_tx (a := a) (by rw [h]; exact h0)
  rwa [h] at this
theorem cand_no {s : List UInt8} (h : s = [] ∨ ∀ a ∈ candL s, txD a ≠ s) : rdD s = none := by
  refine rdD_none fun a ha => ?_
  rcases h with h | h
  · exact told_pos ha h
  · exact h a (cand_told ha) (tx_told ha)

/-! Journals, line by line. -/
theorem j_yes {t : List UInt8} {a : Dd} (r : List UInt8) (h : ∀ d ∈ t, d ≠ (10 : UInt8)) (hr : rdD t = some a) : rdJ (t ++ 10 :: r) = (a :: (rdJ r).1, t.length + 1 + (rdJ r).2) := by
  have := goJ_line t [] (10 :: r) h
  rw [List.nil_append, goJ_yes r hr] at this
  exact this

end Go.Proofs.YtlnffpofbfigaaaGreatDoor
