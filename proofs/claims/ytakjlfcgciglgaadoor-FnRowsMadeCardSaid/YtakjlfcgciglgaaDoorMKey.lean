/-
  Maps whose keys are numbers: which numbers they are, however the entries lie; the codes of rows as keys.
-/
import Derived.Test.YtakjlfcgciglgaaDoorMCode
import Derived.Maps.Own
import Derived.Maps.OwnSet
import Derived.Maps.Views
import Derived.Maps.Range
import Derived.MapViews
import Derived.Lib.SlKeysI
namespace Go.Proofs.YtakjlfcgciglgaaDoor
open Go.RowKit Go.Maps Go.WideElems

def keyC (c : Nat) : Lit := .int .i64 (c : Int)
theorem keyC_inj {a b : Nat} (h : keyC a = keyC b) : a = b := by unfold keyC at h; simp at h; omega
theorem keyC_lit (c : Nat) : WideAt.IsKeyLit (keyC c) := trivial
/-- The keys of a map are just these numbers. -/
structure KeysAre {H : Type} (D : DataW H) (cs : List Nat) : Prop where
  tidy : Maps.Tidy D
  nodup : cs.Nodup
  size : Maps.size D = cs.length
  hasK : ∀ kl, Maps.has D kl = true ↔ ∃ c ∈ cs, kl = keyC c
theorem keys_none {H : Type} : KeysAre (DataW.map [] : DataW H) [] := ⟨tidy_empty, List.nodup_nil, rfl, fun kl => by simp [Maps.has_eq]⟩
def addC (cs : List Nat) (c : Nat) : List Nat := if c ∈ cs then cs else cs ++ [c]
theorem addC_mem (cs : List Nat) (c x : Nat) : x ∈ addC cs c ↔ x ∈ cs ∨ x = c := by
  unfold addC
  split
  · rename_i h
    constructor
    · exact .inl
    · rintro (h1 | rfl)
      · exact h1
      · exact h
  · simp
theorem keys_put {H : Type} {D : DataW H} {cs : List Nat} (h : KeysAre D cs) (c : Nat) (d : DataW H) : KeysAre (D.put (keyC c) d) (addC cs c) where
  tidy := h.tidy.put (keyC_lit c) d
  nodup := by
    unfold addC
    split
    · exact h.nodup
    · rename_i hc
      exact List.nodup_append.2 ⟨h.nodup, by simp, fun a ha b hb e => by simp at hb; subst hb; subst e; exact hc ha⟩
  size := by
    rw [size_put h.tidy]
    by_cases hc : c ∈ cs
    · have : Maps.has D (keyC c) = true := (h.hasK _).2 ⟨c, hc, rfl⟩
      rw [this, if_pos rfl, h.size]
      unfold addC
      rw [if_pos hc]
    · have : Maps.has D (keyC c) = false := by
        cases e : Maps.has D (keyC c)
        · rfl
        · obtain ⟨x, hx, hk⟩ := (h.hasK _).1 e
          rw [keyC_inj hk] at hc
          exact absurd hx hc
      rw [this, if_neg (by simp), h.size]
      unfold addC
      rw [if_neg hc, List.length_append]
      rfl
  hasK := fun kl => by
    by_cases e : kl = keyC c
    · subst e
      rw [has_put_same h.tidy.isMap (keyC_lit c)]
      exact ⟨fun _ => ⟨c, (addC_mem cs c c).2 (.inr rfl), rfl⟩, fun _ => rfl⟩
    · rw [has_put_other e, h.hasK kl]
      constructor
      · rintro ⟨x, hx, rfl⟩
        exact ⟨x, (addC_mem cs c x).2 (.inl hx), rfl⟩
      · rintro ⟨x, hx, rfl⟩
        rcases (addC_mem cs c x).1 hx with h1 | rfl
        · exact ⟨x, h1, rfl⟩
        · exact absurd rfl e
theorem sameKey_self {k : Lit} (h : WideAt.IsKeyLit k) : k.sameKey k = true := by
  cases k <;> simp [WideAt.IsKeyLit] at h <;> simp [Lit.sameKey]
/-- What the sort is handed is these numbers in some order. -/
theorem keys_perm {H : Type} {P : Program} {k : TypeId} {R : Value → Option (DataW H × List MemPlace)} {w : World} {b n : Nat} {D : DataW H} {cs : List Nat} (hown : w.ownsMap P k R b n D) (K : Keyed P k) (h : KeysAre D cs) :
    (cs.map fun (c : Nat) => (c : Int)).Perm (intKeys D) := by
  obtain ⟨es, rfl, hp, hl⟩ := hown.entries K
  refine perm_intKeys hp (fun p hp' => ?_) ?_ fun x => ?_
  · have : Maps.has (.map es) p.1 = true := by
      rw [Maps.has_eq, List.any_eq_true]
      exact ⟨p, hp', sameKey_self (hl p hp')⟩
    obtain ⟨c, _, e⟩ := (h.hasK _).1 this
    exact ⟨c, e⟩
  · refine List.pairwise_map.2 (h.nodup.imp fun {a b} hne e => hne ?_)
    exact Int.ofNat.inj e
  · rw [h.hasK, List.mem_map]
    constructor
    · rintro ⟨c, hc, rfl⟩
      exact ⟨c, hc, rfl⟩
    · rintro ⟨c, hc, e⟩
      refine ⟨c, hc, ?_⟩
      unfold keyC at e
      simpa using e.symm
/-- The bound of a map's entries may be taken to be their number. -/
theorem own_tight {H : Type} {P : Program} {k : TypeId} {R : Value → Option (DataW H × List MemPlace)} {w : World} {b n : Nat} {D : DataW H} (h : w.ownsMap P k R b n D) : w.ownsMap P k R b (Maps.size D) D := by
  obtain ⟨es, clock, hb, F, hs, rfl⟩ := h
  refine ⟨es, clock, hb, F, ?_, rfl⟩
  have e1 : Maps.size (DataW.map ((es.toList.map (rg P k R)).foldr DataW.insert [])) = es.size := by simp [Maps.size, length_sorted]
  rw [e1]
  exact Nat.le_refl _
/-- How many entries a block holds, if it is a map. -/
def entN (b : Nat) (w : World) : Nat := match w.heap[b]? with
  | some (.map es _) => es.size
  | _ => 0
theorem entN_own {H : Type} {P : Program} {k : TypeId} {R : Value → Option (DataW H × List MemPlace)} {w : World} {b n : Nat} {D : DataW H} (h : w.ownsMap P k R b n D) : entN b w = Maps.size D := by
  obtain ⟨es, clock, hb, F, hs, rfl⟩ := h
  have e1 : Maps.size (DataW.map ((es.toList.map (rg P k R)).foldr DataW.insert [])) = es.size := by simp [Maps.size, length_sorted]
  rw [e1]
  unfold entN
  rw [hb]

/-! The numbers below a bound that are among some, ascending. -/
def srt (M : Nat) (cs : List Nat) : List Nat := (List.range M).filter fun c => decide (c ∈ cs)
theorem srt_mem {M : Nat} {cs : List Nat} (h : ∀ c ∈ cs, c < M) (c : Nat) : c ∈ srt M cs ↔ c ∈ cs := by
  unfold srt
  rw [List.mem_filter, List.mem_range]
  simp only [decide_eq_true_eq]
  exact ⟨fun x => x.2, fun x => ⟨h c x, x⟩⟩
theorem srt_perm {M : Nat} {cs : List Nat} (hn : cs.Nodup) (h : ∀ c ∈ cs, c < M) : (srt M cs).Perm cs :=
  (List.perm_ext_iff_of_nodup (List.nodup_range.filter _) hn).2 (srt_mem h)
theorem srt_len {M : Nat} {cs : List Nat} (hn : cs.Nodup) (h : ∀ c ∈ cs, c < M) : (srt M cs).length = cs.length := (srt_perm hn h).length_eq
theorem srt_sorted {M : Nat} {cs : List Nat} (hn : cs.Nodup) (h : ∀ c ∈ cs, c < M) {ss : List Int} (hp : ss.Perm (cs.map fun (c : Nat) => (c : Int))) :
    ss.mergeSort (fun x y => decide (x ≤ y)) = (srt M cs).map fun (c : Nat) => (c : Int) := by
  have h1 : ss.Perm ((srt M cs).map fun (c : Nat) => (c : Int)) := hp.trans ((srt_perm hn h).symm.map _)
  rw [show (fun x y : Int => decide (x ≤ y)) = leI from rfl, mergeSort_of_perm_i h1]
  refine List.mergeSort_of_pairwise (List.pairwise_map.2 ?_)
  refine ((List.pairwise_lt_range (n := M)).filter _).imp fun {a b} hab => ?_
  simp only [leI, decide_eq_true_eq]
  omega

/-! Codes of rows that may be said. -/
def rowC (n c : Nat) : List Nat := digs (n + 1) (n + 1) c
structure GoodC (n : Nat) (cs : List Nat) : Prop where
  nodup : cs.Nodup
  lt : ∀ c ∈ cs, c < (n + 1) ^ (n + 1)
  say : ∀ c ∈ cs, sayR n (rowC n c) = true
  own : codeR (n + 1) (ownR n) ∈ cs
  zer : 0 ∈ cs
theorem rowC_well {n c : Nat} (h : sayR n (rowC n c) = true) : wellR n (rowC n c) := say_well h
theorem rowC_code {n c : Nat} (h : c < (n + 1) ^ (n + 1)) : codeR (n + 1) (rowC n c) = c := code_digs h
theorem rowC_of {n : Nat} {r : List Nat} (h : wellR n r) : rowC n (codeR (n + 1) r) = r := (digs_code (n + 1) r h.1 h.2).1
theorem goodC_put {n : Nat} {cs : List Nat} (h : GoodC n cs) {r : List Nat} (hr : sayR n r = true) : GoodC n (addC cs (codeR (n + 1) r)) where
  nodup := by
    unfold addC
    split
    · exact h.nodup
    · rename_i hc
      exact List.nodup_append.2 ⟨h.nodup, by simp, fun a ha b hb e => by simp at hb; subst hb; subst e; exact hc ha⟩
  lt := fun c hc => ((addC_mem cs _ c).1 hc).elim (h.lt c) (fun e => by rw [e]; exact code_lt (say_well hr))
  say := fun c hc => ((addC_mem cs _ c).1 hc).elim (h.say c) (fun e => by rw [e, rowC_of (say_well hr)]; exact hr)
  own := (addC_mem cs _ _).2 (.inl h.own)
  zer := (addC_mem cs _ _).2 (.inl h.zer)
theorem goodC_len {n : Nat} {cs : List Nat} (h : GoodC n cs) : cs.length ≤ (n + 1) ^ (n + 1) := nodup_len _ cs h.nodup h.lt
theorem sub_len : ∀ (l m : List Nat), l.Nodup → (∀ x ∈ l, x ∈ m) → l.length ≤ m.length := by
  intro l
  induction l with
  | nil => intro m _ _; exact Nat.zero_le _
  | cons a l ih =>
    intro m hn hs
    rw [List.nodup_cons] at hn
    have ha := hs a (by simp)
    have h1 := ih (m.erase a) hn.2 fun x hx => (List.mem_erase_of_ne (fun e => by subst e; exact hn.1 hx)).2 (hs x (by simp [hx]))
    have h2 := List.length_erase_of_mem ha
    have h3 := List.length_pos_of_mem ha
    rw [h2] at h1
    simp only [List.length_cons]
    omega
/-- No more of them: then none is new. -/
theorem sub_same {cs ds : List Nat} (hn : cs.Nodup) (hs : ∀ x ∈ cs, x ∈ ds) (hl : ds.length ≤ cs.length) : ∀ x ∈ ds, x ∈ cs := by
  intro x hx
  by_cases h : x ∈ cs
  · exact h
  · have := sub_len (x :: cs) ds (List.nodup_cons.2 ⟨h, hn⟩) (fun y hy => by
      rcases List.mem_cons.1 hy with rfl | hy
      · exact hx
      · exact hs y hy)
    simp only [List.length_cons] at this
    omega
/-- The rows of some codes, ascending, and what two of them make. -/
def rowsC (n : Nat) (cs : List Nat) : List (List Nat) := (srt ((n + 1) ^ (n + 1)) cs).map (rowC n)
theorem rowsC_len {n : Nat} {cs : List Nat} (h : GoodC n cs) : (rowsC n cs).length = cs.length := by unfold rowsC; rw [List.length_map, srt_len h.nodup h.lt]
theorem rowsC_at {n : Nat} {cs : List Nat} (h : GoodC n cs) {i : Nat} (hi : i < cs.length) : ∃ c ∈ cs, (rowsC n cs).getD i [] = rowC n c := by
  have hl := srt_len h.nodup h.lt
  unfold rowsC
  rw [List.getD_eq_getElem?_getD, List.getElem?_map, List.getElem?_eq_getElem (by omega)]
  exact ⟨_, (srt_mem h.lt _).1 (List.getElem_mem (by omega)), rfl⟩
theorem rowsC_has {n : Nat} {cs : List Nat} (h : GoodC n cs) {c : Nat} (hc : c ∈ cs) : ∃ i, i < cs.length ∧ (rowsC n cs).getD i [] = rowC n c := by
  have hl := srt_len h.nodup h.lt
  obtain ⟨i, hi, e⟩ := List.mem_iff_getElem.1 ((srt_mem h.lt c).2 hc)
  refine ⟨i, by omega, ?_⟩
  unfold rowsC
  rw [List.getD_eq_getElem?_getD, List.getElem?_map, List.getElem?_eq_getElem hi, e]
  rfl
theorem rowsC_say {n : Nat} {cs : List Nat} (h : GoodC n cs) {i : Nat} (hi : i < cs.length) : sayR n ((rowsC n cs).getD i []) = true := by
  obtain ⟨c, hc, e⟩ := rowsC_at h hi
  rw [e]
  exact h.say c hc
/-- All pairs ahead of a place have been put. -/
def DoneC (n : Nat) (rs : List (List Nat)) (ds : List Nat) (a k : Nat) : Prop :=
  ∀ i j, i < rs.length → j < rs.length → (i < a ∨ (i = a ∧ j < k)) → codeR (n + 1) (folR n (rs.getD i []) (rs.getD j [])) ∈ ds
theorem doneC_0 (n : Nat) (rs : List (List Nat)) (ds : List Nat) : DoneC n rs ds 0 0 := fun i j _ _ h => by omega
theorem doneC_put {n : Nat} {rs : List (List Nat)} {ds : List Nat} {a k : Nat} (h : DoneC n rs ds a k) : DoneC n rs (addC ds (codeR (n + 1) (folR n (rs.getD a []) (rs.getD k [])))) a (k + 1) := fun i j h1 h2 h3 => by
  by_cases e : i = a ∧ j = k
  · obtain ⟨rfl, rfl⟩ := e
    exact (addC_mem ds _ _).2 (.inr rfl)
  · exact (addC_mem ds _ _).2 (.inl (h i j h1 h2 (by omega)))
theorem doneC_next {n : Nat} {rs : List (List Nat)} {ds : List Nat} {a : Nat} (h : DoneC n rs ds a rs.length) : DoneC n rs ds (a + 1) 0 := fun i j h1 h2 h3 => h i j h1 h2 (by omega)
/-- Nothing is new: then all rows that may be said are there. -/
theorem doneC_all {n : Nat} (hn : 1 ≤ n ∧ n ≤ 4) {cs ds : List Nat} (hg : GoodC n cs) (hs : ∀ x ∈ cs, x ∈ ds) (hl : ds.length ≤ cs.length) (hd : DoneC n (rowsC n cs) ds cs.length 0) :
    rowsC n cs = outTo n ((n + 1) ^ (n + 1)) := by
  have hsub := sub_same hg.nodup hs hl
  have hall : ∀ r, sayR n r = true → sayR n r = true ∧ codeR (n + 1) r ∈ cs := fun r hr => by
    refine say_least (P := fun r => sayR n r = true ∧ codeR (n + 1) r ∈ cs) hn ⟨say_own n, hg.own⟩ ⟨say_zer n, ?_⟩ (fun x y hx hy => ?_) hr
    · have : codeR (n + 1) (zerR n) = 0 := by
        have h0 : ∀ k, codeR (n + 1) (List.replicate k 0) = 0 := by
          intro k
          induction k with
          | zero => rfl
          | succ k ih => rw [List.replicate_succ', codeR_snoc, ih]; omega
        exact h0 (n + 1)
      rw [this]
      exact hg.zer
    · refine ⟨say_fol hx.1 hy.1, hsub _ ?_⟩
      obtain ⟨i, hi, e1⟩ := rowsC_has hg hx.2
      obtain ⟨j, hj, e2⟩ := rowsC_has hg hy.2
      rw [rowC_of (say_well hx.1)] at e1
      rw [rowC_of (say_well hy.1)] at e2
      have := hd i j (by rw [rowsC_len hg]; exact hi) (by rw [rowsC_len hg]; exact hj) (.inl hi)
      rw [e1, e2] at this
      exact this
  unfold rowsC outTo srt
  congr 1
  refine List.filter_congr fun c hc => ?_
  have hc' := List.mem_range.1 hc
  by_cases h : c ∈ cs
  · rw [decide_eq_true h]
    exact (hg.say c h).symm
  · rw [decide_eq_false h]
    cases e : sayR n (digs (n + 1) (n + 1) c)
    · rfl
    · have := (hall _ e).2
      rw [show codeR (n + 1) (digs (n + 1) (n + 1) c) = c from code_digs hc'] at this
      exact absurd this h
/-- The row of all values and that of noughts. -/
theorem goodC_start {n : Nat} (hn : 1 ≤ n) : GoodC n (addC (addC [] 0) (codeR (n + 1) (ownR n))) := by
  have e : addC [] 0 = [0] := rfl
  have hz : rowC n 0 = zerR n := by
    have h0 : codeR (n + 1) (zerR n) = 0 := by
      have h0 : ∀ k, codeR (n + 1) (List.replicate k 0) = 0 := by
        intro k
        induction k with
        | zero => rfl
        | succ k ih => rw [List.replicate_succ', codeR_snoc, ih]; omega
      exact h0 (n + 1)
    rw [← h0]
    exact rowC_of (say_well (say_zer n))
  have hm : ∀ c, c ∈ addC (addC [] 0) (codeR (n + 1) (ownR n)) ↔ c = 0 ∨ c = codeR (n + 1) (ownR n) := fun c => by rw [addC_mem, e]; simp
  refine ⟨?_, fun c hc => ?_, fun c hc => ?_, (hm _).2 (.inr rfl), (hm _).2 (.inl rfl)⟩
  · rw [e]
    unfold addC
    split
    · simp
    · rename_i h
      simp at h
      simp [Ne.symm h]
  · rcases (hm c).1 hc with rfl | rfl
    · exact Nat.pow_pos (by omega)
    · exact code_lt (say_well (say_own n))
  · rcases (hm c).1 hc with rfl | rfl
    · rw [hz]; exact say_zer n
    · rw [rowC_of (say_well (say_own n))]; exact say_own n

end Go.Proofs.YtakjlfcgciglgaaDoor
