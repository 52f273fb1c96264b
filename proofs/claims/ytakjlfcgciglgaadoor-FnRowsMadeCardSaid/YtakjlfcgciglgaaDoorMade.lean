/-
  Rows that are made one after the other: what a list of rows is that has been put together with itself so far; how it ends. No program is named.
-/
import Derived.Test.YtakjlfcgciglgaaDoorSay
namespace Go.Proofs.YtakjlfcgciglgaaDoor

def wellR (n : Nat) (r : List Nat) : Prop := r.length = n + 1 ∧ ∀ d ∈ r, d < n + 1
theorem say_well {n : Nat} {r : List Nat} (h : sayR n r = true) : wellR n r := by
  obtain ⟨h1, h2⟩ := sayR_of h
  refine ⟨h1, fun d hd => ?_⟩
  obtain ⟨i, hi, rfl⟩ := List.mem_iff_getElem.1 hd
  have := (h2 i (by omega)).1
  rw [List.getD_eq_getElem?_getD, List.getElem?_eq_getElem hi, Option.getD_some] at this
  omega
theorem code_lt {n : Nat} {r : List Nat} (h : wellR n r) : codeR (n + 1) r < (n + 1) ^ (n + 1) := (digs_code (n + 1) r h.1 h.2).2
theorem code_inj {n : Nat} {r s : List Nat} (h : wellR n r) (k : wellR n s) (e : codeR (n + 1) r = codeR (n + 1) s) : r = s := by
  rw [← (digs_code (n + 1) r h.1 h.2).1, e, (digs_code (n + 1) s k.1 k.2).1]
theorem code_digs' {b : Nat} (hb : 0 < b) : ∀ k c, c < b ^ k → codeR b (digs b k c) = c := by
  intro k
  induction k with
  | zero => intro c hc; have : c = 0 := by simpa using hc
            subst this; rfl
  | succ k ih =>
    intro c hc
    show codeR b (digs b k (c / b) ++ [c % b]) = c
    rw [codeR_snoc, ih (c / b) (by rw [Nat.div_lt_iff_lt_mul hb]; rwa [Nat.pow_succ] at hc)]
    rw [Nat.mul_comm]
    exact Nat.div_add_mod c b
theorem code_digs {n c : Nat} (h : c < (n + 1) ^ (n + 1)) : codeR (n + 1) (digs (n + 1) (n + 1) c) = c := code_digs' (by omega) _ _ h
/-- The codes of some rows. -/
def codesR (n : Nat) (rs : List (List Nat)) : List Nat := rs.map (codeR (n + 1))
/-- Rows that may be said, each one once. -/
structure GoodR (n : Nat) (rs : List (List Nat)) : Prop where
  say : ∀ r ∈ rs, sayR n r = true
  nodup : (codesR n rs).Nodup
  own : ownR n ∈ rs
  zer : zerR n ∈ rs
theorem mem_code {n : Nat} {rs : List (List Nat)} {r : List Nat} (hs : ∀ x ∈ rs, sayR n x = true) (hr : wellR n r) (h : codeR (n + 1) r ∈ codesR n rs) : r ∈ rs := by
  unfold codesR at h
  obtain ⟨s, hs', e⟩ := List.mem_map.1 h
  rw [← code_inj (say_well (hs s hs')) hr e]
  exact hs'
theorem nodup_len : ∀ (M : Nat) (l : List Nat), l.Nodup → (∀ x ∈ l, x < M) → l.length ≤ M := by
  intro M
  induction M with
  | zero =>
    intro l _ h
    cases l with
    | nil => exact Nat.le_refl _
    | cons a l => exact absurd (h a (by simp)) (by omega)
  | succ M ih =>
    intro l hn h
    have h1 := ih (l.erase M) (hn.erase M) (fun x hx => by
      have h2 := h x (List.mem_of_mem_erase hx)
      have h3 : x ≠ M := fun e => by subst e; exact absurd hx (List.Nodup.not_mem_erase hn)
      omega)
    have h4 := List.length_erase (a := M) (l := l)
    split at h4 <;> omega
theorem GoodR.len {n : Nat} {rs : List (List Nat)} (h : GoodR n rs) : rs.length ≤ (n + 1) ^ (n + 1) := by
  have := nodup_len ((n + 1) ^ (n + 1)) (codesR n rs) h.nodup (fun x hx => by
    unfold codesR at hx
    obtain ⟨r, hr, rfl⟩ := List.mem_map.1 hx
    exact code_lt (say_well (h.say r hr)))
  unfold codesR at this
  simpa using this
theorem GoodR.more {n : Nat} {rs : List (List Nat)} (h : GoodR n rs) {r : List Nat} (hr : sayR n r = true) (hc : codeR (n + 1) r ∉ codesR n rs) : GoodR n (rs ++ [r]) where
  say := fun x hx => (List.mem_append.1 hx).elim (h.say x) (fun e => by simp at e; rw [e]; exact hr)
  nodup := by
    unfold codesR at *
    rw [List.map_append, List.nodup_append]
    refine ⟨h.nodup, by simp, fun a ha b hb e => ?_⟩
    simp at hb
    subst hb
    subst e
    exact hc ha
  own := List.mem_append_left _ h.own
  zer := List.mem_append_left _ h.zer
theorem good_start {n : Nat} (hn : 1 ≤ n) : GoodR n [ownR n, zerR n] where
  say := fun x hx => by
    simp at hx
    rcases hx with rfl | rfl
    · exact say_own n
    · exact say_zer n
  nodup := by
    have hne : codeR (n + 1) (ownR n) ≠ codeR (n + 1) (zerR n) := fun e => by
      have := code_inj (say_well (say_own n)) (say_well (say_zer n)) e
      have h1 : (ownR n).getD 1 0 = 1 := by unfold ownR; rw [List.getD_eq_getElem?_getD, List.getElem?_range (by omega)]; rfl
      have h2 : (zerR n).getD 1 0 = 0 := by unfold zerR; rw [List.getD_eq_getElem?_getD, List.getElem?_replicate]; split <;> rfl
      rw [this, h2] at h1
      cases h1
    unfold codesR
    simp [hne]
  own := by simp
  zer := by simp

/-- What two rows make, either way. -/
def newR (n : Nat) (x y : List Nat) (s : Nat) : List Nat := if s = 0 then folR n x y else folR n y x
theorem new_say {n : Nat} {x y : List Nat} (hx : sayR n x = true) (hy : sayR n y = true) (s : Nat) : sayR n (newR n x y s) = true := by
  unfold newR
  split
  · exact say_fol hx hy
  · exact say_fol hy hx
/-- All pairs ahead of a place have been put together. -/
def DoneR (n : Nat) (rs : List (List Nat)) (at_ k side : Nat) : Prop :=
  ∀ i j s, j ≤ i → i < rs.length → s < 2 → (i < at_ ∨ (i = at_ ∧ (j < k ∨ (j = k ∧ s < side)))) → codeR (n + 1) (newR n (rs.getD i []) (rs.getD j []) s) ∈ codesR n rs
theorem done_0 (n : Nat) (rs : List (List Nat)) : DoneR n rs 0 0 0 := fun i j s _ _ _ h => by omega
theorem done_side {n : Nat} {rs : List (List Nat)} {a k side : Nat} (h : DoneR n rs a k side) (hm : codeR (n + 1) (newR n (rs.getD a []) (rs.getD k []) side) ∈ codesR n rs) : DoneR n rs a k (side + 1) := fun i j s h1 h2 h3 h4 => by
  by_cases e : i = a ∧ j = k ∧ s = side
  · obtain ⟨rfl, rfl, rfl⟩ := e; exact hm
  · exact h i j s h1 h2 h3 (by omega)
theorem done_k {n : Nat} {rs : List (List Nat)} {a k : Nat} (h : DoneR n rs a k 2) : DoneR n rs a (k + 1) 0 := fun i j s h1 h2 h3 h4 => h i j s h1 h2 h3 (by omega)
theorem done_at {n : Nat} {rs : List (List Nat)} {a : Nat} (h : DoneR n rs a (a + 1) 0) : DoneR n rs (a + 1) 0 0 := fun i j s h1 h2 h3 h4 => h i j s h1 h2 h3 (by omega)
theorem getD_old {rs : List (List Nat)} {r : List Nat} {i : Nat} (h : i < rs.length) : (rs ++ [r]).getD i [] = rs.getD i [] := by
  rw [List.getD_eq_getElem?_getD, List.getElem?_append_left h, List.getD_eq_getElem?_getD]
theorem getD_new {rs : List (List Nat)} {r : List Nat} : (rs ++ [r]).getD rs.length [] = r := by
  rw [List.getD_eq_getElem?_getD, List.getElem?_append_right (Nat.le_refl _)]
  simp
theorem done_more {n : Nat} {rs : List (List Nat)} {a k side : Nat} {r : List Nat} (ha : a < rs.length) (h : DoneR n rs a k side) : DoneR n (rs ++ [r]) a k side := fun i j s h1 h2 h3 h4 => by
  have hi : i < rs.length := by omega
  rw [getD_old hi, getD_old (by omega)]
  have := h i j s h1 hi h3 h4
  unfold codesR at *
  rw [List.map_append]
  exact List.mem_append_left _ this
/-- At the end all rows that may be said are there. -/
theorem done_all {n : Nat} {rs : List (List Nat)} (hn : 1 ≤ n ∧ n ≤ 4) (hg : GoodR n rs) (h : DoneR n rs rs.length 0 0) {r : List Nat} (hr : sayR n r = true) : r ∈ rs := by
  refine say_least (P := fun r => r ∈ rs) hn hg.own hg.zer (fun x y hx hy => ?_) hr
  obtain ⟨i, hi, rfl⟩ := List.mem_iff_getElem.1 hx
  obtain ⟨j, hj, rfl⟩ := List.mem_iff_getElem.1 hy
  have hsx := hg.say _ hx
  have hsy := hg.say _ hy
  refine mem_code hg.say (say_well (say_fol hsx hsy)) ?_
  have e1 : rs.getD i [] = rs[i] := by rw [List.getD_eq_getElem?_getD, List.getElem?_eq_getElem hi, Option.getD_some]
  have e2 : rs.getD j [] = rs[j] := by rw [List.getD_eq_getElem?_getD, List.getElem?_eq_getElem hj, Option.getD_some]
  by_cases hij : j ≤ i
  · have := h i j 0 hij hi (by omega) (by omega)
    rw [e1, e2] at this
    exact this
  · have := h j i 1 (by omega) hj (by omega) (by omega)
    rw [e1, e2] at this
    exact this
theorem done_codes {n : Nat} {rs : List (List Nat)} (hn : 1 ≤ n ∧ n ≤ 4) (hg : GoodR n rs) (h : DoneR n rs rs.length 0 0) {c : Nat} (hc : c < (n + 1) ^ (n + 1)) : c ∈ codesR n rs ↔ sayR n (digs (n + 1) (n + 1) c) = true := by
  constructor
  · intro hm
    unfold codesR at hm
    obtain ⟨r, hr, rfl⟩ := List.mem_map.1 hm
    have hs := hg.say r hr
    rw [(digs_code (n + 1) r (say_well hs).1 (say_well hs).2).1]
    exact hs
  · intro hs
    have hm := done_all hn hg h hs
    unfold codesR
    refine List.mem_map.2 ⟨_, hm, ?_⟩
    exact code_digs hc
/-- What comes out. -/
def outTo (n c : Nat) : List (List Nat) := ((List.range c).filter fun x => sayR n (digs (n + 1) (n + 1) x)).map (digs (n + 1) (n + 1))
theorem outTo_hit {n c : Nat} (h : sayR n (digs (n + 1) (n + 1) c) = true) : outTo n (c + 1) = outTo n c ++ [digs (n + 1) (n + 1) c] := by
  unfold outTo
  rw [List.range_succ, List.filter_append, List.map_append]
  simp [h]
theorem outTo_miss {n c : Nat} (h : sayR n (digs (n + 1) (n + 1) c) = false) : outTo n (c + 1) = outTo n c := by
  unfold outTo
  rw [List.range_succ, List.filter_append, List.map_append]
  simp [h]
theorem outTo_len {n : Nat} : ∀ c, (outTo n c).length ≤ c := by
  intro c
  unfold outTo
  rw [List.length_map]
  have := List.length_filter_le (fun x => sayR n (digs (n + 1) (n + 1) x)) (List.range c)
  rw [List.length_range] at this
  exact this

end Go.Proofs.YtakjlfcgciglgaaDoor
