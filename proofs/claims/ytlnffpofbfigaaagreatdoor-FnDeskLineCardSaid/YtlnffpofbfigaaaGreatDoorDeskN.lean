/-
  Numbers as texts, texts of one or two digits as numbers, and what stands between the bytes of one kind: as plain lists of bytes. No program is named.
-/
import Derived.Test.YtlnffpofbfigaaaGreatDoorDesk
namespace Go.Proofs.YtlnffpofbfigaaaGreatDoor

/-! Numbers as texts. -/
def decF : Nat → Nat → List UInt8
  | 0, _ => []
  | f + 1, k => if k < 10 then [UInt8.ofNat (48 + k)] else decF f (k / 10) ++ [UInt8.ofNat (48 + k % 10)]
def decL (k : Nat) : List UInt8 := decF (k + 1) k
theorem decF_small {f k : Nat} (h : k < 10) : decF (f + 1) k = [UInt8.ofNat (48 + k)] := if_pos h
theorem decF_great {f k : Nat} (h : ¬ k < 10) : decF (f + 1) k = decF f (k / 10) ++ [UInt8.ofNat (48 + k % 10)] := if_neg h
theorem decF_any : ∀ (f g k : Nat), k < f → k < g → decF f k = decF g k
  | 0, _, _, h, _ => absurd h (by omega)
  | _ + 1, 0, _, _, h => absurd h (by omega)
  | f + 1, g + 1, k, hf, hg => by
    by_cases h : k < 10
    · rw [decF_small h, decF_small h]
    · rw [decF_great h, decF_great h, decF_any f g (k / 10) (by omega) (by omega)]
theorem decL_small {k : Nat} (h : k < 10) : decL k = [UInt8.ofNat (48 + k)] := decF_small h
theorem decL_great {k : Nat} (h : ¬ k < 10) : decL k = decL (k / 10) ++ [UInt8.ofNat (48 + k % 10)] := by
  unfold decL
  rw [decF_great h, decF_any k (k / 10 + 1) (k / 10) (by omega) (by omega)]
theorem decL_pos (k : Nat) : decL k ≠ [] := by
  by_cases h : k < 10
  · rw [decL_small h]; simp
  · rw [decL_great h]; simp
theorem decF_len : ∀ (f k m : Nat), k < 10 ^ m → 1 ≤ m → (decF f k).length ≤ m
  | 0, _, _, _, _ => by simp [decF]
  | f + 1, k, m, h, hm => by
    by_cases hk : k < 10
    · rw [decF_small hk]; simpa using hm
    · rw [decF_great hk]
      obtain ⟨j, rfl⟩ : ∃ j, m = j + 1 := ⟨m - 1, by omega⟩
      have h1 : k / 10 < 10 ^ j := by rw [Nat.pow_succ] at h; omega
      have h2 : 1 ≤ j := by
        cases j with
        | zero => simp at h; omega
        | succ j => omega
      have := decF_len f (k / 10) j h1 h2
      simp; omega
theorem decL_len {k m : Nat} (h : k < 10 ^ m) (hm : 1 ≤ m) : (decL k).length ≤ m := decF_len _ _ _ h hm

/-- Numbers with commas between them, or none. -/
def noneW : List UInt8 := [110, 111, 110, 101]
def comL : List Nat → List UInt8
  | [] => []
  | [x] => decL x
  | x :: y :: l => decL x ++ 44 :: comL (y :: l)
def rowT (l : List Nat) : List UInt8 := if l.isEmpty then noneW else comL l
theorem comL_cons (x y : Nat) (l : List Nat) : comL (x :: y :: l) = decL x ++ 44 :: comL (y :: l) := rfl
theorem comL_snoc : ∀ (l : List Nat) (x : Nat), l ≠ [] → comL (l ++ [x]) = comL l ++ 44 :: decL x
  | [], _, h => absurd rfl h
  | [y], x, _ => rfl
  | y :: z :: l, x, _ => by
    show decL y ++ 44 :: comL (z :: l ++ [x]) = (decL y ++ 44 :: comL (z :: l)) ++ 44 :: decL x
    rw [comL_snoc (z :: l) x (by simp)]
    simp
theorem comL_pos {l : List Nat} (h : l ≠ []) : comL l ≠ [] := by
  cases l with
  | nil => exact absurd rfl h
  | cons x l =>
    cases l with
    | nil => exact decL_pos x
    | cons y l => rw [comL_cons]; simp
theorem rowT_pos (l : List Nat) : rowT l ≠ [] := by
  unfold rowT
  cases l with
  | nil => simp [noneW]
  | cons x l => exact comL_pos (by simp)
theorem rowT_nil : rowT [] = noneW := rfl
theorem rowT_cons (x : Nat) (l : List Nat) : rowT (x :: l) = comL (x :: l) := rfl

/-! Texts of one or two digits, without leading zeros. -/
def digV (c : UInt8) : Int := (c.toNat : Int) - 48
def isD (c : UInt8) : Bool := inB (digV c) 0 9
def digI (s : List UInt8) : Int :=
  match s with
  | [c] => if isD c = true then digV c else -1
  | [c, d] => if isD c = true ∧ isD d = true ∧ c ≠ 48 then 10 * digV c + digV d else -1
  | _ => -1
theorem digI_one {c : UInt8} (h : isD c = true) : digI [c] = digV c := if_pos h
theorem digI_one_no {c : UInt8} (h : isD c = false) : digI [c] = -1 := if_neg (by rw [h]; simp)
theorem digI_two {c d : UInt8} (h : isD c = true) (k : isD d = true) (hz : c ≠ 48) : digI [c, d] = 10 * digV c + digV d := if_pos ⟨h, k, hz⟩
theorem digI_two_no {c d : UInt8} (h : isD c = false ∨ isD d = false ∨ c = 48) : digI [c, d] = -1 := by
  refine if_neg fun k => ?_
  rcases h with h | h | h
  · rw [h] at k; exact absurd k.1 (by simp)
  · rw [h] at k; exact absurd k.2.1 (by simp)
  · exact k.2.2 h
theorem digI_nil : digI [] = -1 := rfl
theorem digI_long {s : List UInt8} (h : 2 < s.length) : digI s = -1 := by
  match s, h with
  | [], h => simp at h
  | [_], h => simp at h
  | [_, _], h => simp at h
  | _ :: _ :: _ :: _, _ => rfl
theorem digI_le (s : List UInt8) : -1 ≤ digI s ∧ digI s ≤ 99 := by
  match s with
  | [] => exact ⟨by decide, by decide⟩
  | [c] =>
    by_cases h : isD c = true
    · rw [digI_one h]; have := inB_of h; omega
    · rw [digI_one_no (by simpa using h)]; omega
  | [c, d] =>
    by_cases h : isD c = true ∧ isD d = true ∧ c ≠ 48
    · rw [digI_two h.1 h.2.1 h.2.2]; have := inB_of h.1; have := inB_of h.2.1; omega
    · have e : digI [c, d] = -1 := if_neg h
      rw [e]; omega
  | _ :: _ :: _ :: _ => exact ⟨by show (-1 : Int) ≤ -1; omega, by show (-1 : Int) ≤ 99; omega⟩

/-! What stands between the bytes of one kind. -/
def cutG (p : UInt8) : List UInt8 → List UInt8 → List (List UInt8)
  | cur, [] => [cur]
  | cur, c :: r => if c = p then cur :: cutG p [] r else cutG p (cur ++ [c]) r
def cutL (p : UInt8) (s : List UInt8) : List (List UInt8) := cutG p [] s
theorem cutG_nil (p : UInt8) (cur : List UInt8) : cutG p cur [] = [cur] := rfl
theorem cutG_hit (p : UInt8) (cur r : List UInt8) : cutG p cur (p :: r) = cur :: cutG p [] r := if_pos rfl
theorem cutG_miss {p c : UInt8} (cur r : List UInt8) (h : c ≠ p) : cutG p cur (c :: r) = cutG p (cur ++ [c]) r := if_neg h
theorem cutG_line {p : UInt8} : ∀ (t cur r : List UInt8), (∀ c ∈ t, c ≠ p) → cutG p cur (t ++ r) = cutG p (cur ++ t) r
  | [], cur, r, _ => by rw [List.append_nil]; rfl
  | c :: t, cur, r, h => by
    rw [List.cons_append, cutG_miss _ _ (h c (by simp)), cutG_line t _ r fun d hd => h d (by simp [hd]), List.append_assoc]; rfl
theorem cutL_one {p : UInt8} {t : List UInt8} (h : ∀ c ∈ t, c ≠ p) : cutL p t = [t] := by
  have := cutG_line t [] [] h
  rw [List.append_nil, List.nil_append, cutG_nil] at this
  exact this
theorem cutL_more {p : UInt8} {t : List UInt8} (r : List UInt8) (h : ∀ c ∈ t, c ≠ p) : cutL p (t ++ p :: r) = t :: cutL p r := by
  unfold cutL
  rw [cutG_line t [] (p :: r) h, List.nil_append, cutG_hit]
/-- What comes behind the last cut, the words so far and the word that is under way. -/
theorem cutG_pos (p : UInt8) : ∀ (r cur : List UInt8), 1 ≤ (cutG p cur r).length
  | [], _ => Nat.le_refl _
  | c :: r, cur => by
    by_cases h : c = p
    · subst h; rw [cutG_hit]; simp
    · rw [cutG_miss _ _ h]; exact cutG_pos p r _
/-- What is cut, put together again. -/
def joinL (p : UInt8) : List (List UInt8) → List UInt8
  | [] => []
  | [t] => t
  | t :: u :: l => t ++ p :: joinL p (u :: l)
theorem joinL_cons (p : UInt8) (t : List UInt8) {l : List (List UInt8)} (h : l ≠ []) : joinL p (t :: l) = t ++ p :: joinL p l := by
  cases l with
  | nil => exact absurd rfl h
  | cons u l => rfl
theorem cutG_join (p : UInt8) : ∀ (r cur : List UInt8), joinL p (cutG p cur r) = cur ++ r
  | [], cur => by rw [cutG_nil, List.append_nil]; rfl
  | c :: r, cur => by
    by_cases h : c = p
    · subst h
      rw [cutG_hit, joinL_cons _ _ (by have := cutG_pos c r []; intro k; rw [k] at this; simp at this), cutG_join c r []]; rfl
    · rw [cutG_miss _ _ h, cutG_join p r _, List.append_assoc]; rfl
theorem cutL_join (p : UInt8) (s : List UInt8) : joinL p (cutL p s) = s := cutG_join p s []

/-- A text with one space, and with three. -/
theorem cut_two {s a b : List UInt8} (h : cutL 32 s = [a, b]) : s = a ++ 32 :: b := by
  have := cutL_join 32 s
  rw [h] at this
  exact this.symm
theorem cut_four {s a b c d : List UInt8} (h : cutL 32 s = [a, b, c, d]) : s = a ++ 32 :: (b ++ 32 :: (c ++ 32 :: d)) := by
  have := cutL_join 32 s
  rw [h] at this
  exact this.symm

/-- The text of a deed has at most one space: cut at spaces it is a word, or two. -/
theorem told_cut {a : Dd} {s : List UInt8} (h : Told a s) : (∃ t, cutL 32 s = [t]) ∨ ∃ t u, cutL 32 s = [t, u] := by
  have f : ∀ (p t : List UInt8), (∀ c ∈ p, c ≠ (32 : UInt8)) → (∀ c ∈ t, c ≠ (32 : UInt8)) → cutL 32 ((p ++ [32]) ++ t) = [p, t] := by
    intro p t hp ht
    rw [List.append_assoc]
    show cutL 32 (p ++ 32 :: t) = _
    rw [cutL_more t hp, cutL_one ht]
  cases h with
  | chain k hk =>
    refine .inr ⟨[99, 104, 97, 105, 110], [UInt8.ofNat (48 + k)], f [99, 104, 97, 105, 110] [UInt8.ofNat (48 + k)] (by decide) fun c hc => ?_⟩
    rw [List.mem_singleton] at hc
    rw [hc]; exact (dig_sp hk).1
  | say t ht => exact .inr ⟨[115, 97, 121], t, f [115, 97, 121] t (by decide) fun c hc => (isF_noSp ht c hc).1⟩
  | times t ht => exact .inr ⟨[116, 105, 109, 101, 115], t, f [116, 105, 109, 101, 115] t (by decide) fun c hc => (isF_noSp ht c hc).1⟩
  | ifs t ht => exact .inr ⟨[105, 102], t, f [105, 102] t (by decide) fun c hc => (isF_noSp ht c hc).1⟩
  | nots => exact .inl ⟨_, cutL_one (by decide)⟩
  | basic => exact .inl ⟨_, cutL_one (by decide)⟩
  | back => exact .inl ⟨_, cutL_one (by decide)⟩

end Go.Proofs.YtlnffpofbfigaaaGreatDoor
