/-
  Joined out of the texts DTa, DTb, DTc: what each holds is told at its head.
-/
import Derived.Test.YtlnffpofbfigaaaGreatDoorM85c18669
import Derived.Test.YtlnffpofbfigaaaGreatDoorM323050c2
import Derived.Test.YtlnffpofbfigaaaGreatDoorNf8fac338
import Derived.Laws.IdiomStrings

/-
  The text of a deed: numbers of one digit as texts, where the words of deeds lie, impl's namesOk and DeedText.
-/
namespace Go.Proofs.YtlnffpofbfigaaaGreatDoor
open Go.RowKit

def oneD (k : Int) : List UInt8 := [UInt8.ofNat (48 + k.toNat)]
theorem ten9 {k : Int} (h : inB k 0 9 = true) : k = 0 ∨ k = 1 ∨ k = 2 ∨ k = 3 ∨ k = 4 ∨ k = 5 ∨ k = 6 ∨ k = 7 ∨ k = 8 ∨ k = 9 := by have := inB_of h; omega
theorem retS {a b : ByteArray} (h : a = b) : Ending.returned (.string a) = .returned (.string b) := by rw [h]

theorem small9_any (k : Int) (h : inB k 0 9 = true) (w : World) :
    Calls Tryz.prog 166 #[.int .i64 k] w fun e w' => e = .returned (.string (bs (oneD k))) ∧ w = w' := by
  rcases ten9 h with rfl | rfl | rfl | rfl | rfl | rfl | rfl | rfl | rfl | rfl
  all_goals
    clear h
    go_enter Tryz.func166, Tryz.ntmps166
    go_wp2
    go_ret
    exact ⟨retS (by decide), rfl⟩

theorem ito9_any (k : Int) (h : inB k 0 9 = true) (w : World) :
    Calls Tryz.prog 54 #[.int .i64 k] w fun e w' => e = .returned (.string (bs (oneD k))) ∧ w = w' := by
  have hb := inB_of h
  go_enter Tryz.func54, Tryz.ntmps54
  go_wp2_with (first | (go_at_call 166; refine (small9_any k h _).mono ?_; rintro e w' ⟨rfl, rfl⟩) | go_in)
  go_ret
  exact ⟨rfl, rfl⟩

/-- The words of deeds lie as laid. -/
def WdAt (w : World) : Prop := 0 < w.heap.size ∧ ∀ i, i < 7 → w.cell? ⟨0, i, none⟩ = some (.string (bs (wordsL.getD i [])))
theorem WdAt.grown {w w' : World} (h : WdAt w) (hg : w.grownBy w' none) : WdAt w' :=
  ⟨Nat.lt_of_lt_of_le h.1 hg.size, fun i hi => (World.cell?_of_block (w := w) (hg.block _ h.1 (by simp))).trans (h.2 i hi)⟩
structure WdF (w : World) : Prop where
  c0 : w.cell? ⟨0, 0, none⟩ = some (.string ⟨#[99, 104, 97, 105, 110]⟩)
  c1 : w.cell? ⟨0, 1, none⟩ = some (.string ⟨#[115, 97, 121]⟩)
  c2 : w.cell? ⟨0, 2, none⟩ = some (.string ⟨#[110, 111, 116]⟩)
  c3 : w.cell? ⟨0, 3, none⟩ = some (.string ⟨#[116, 105, 109, 101, 115]⟩)
  c4 : w.cell? ⟨0, 4, none⟩ = some (.string ⟨#[105, 102]⟩)
  c5 : w.cell? ⟨0, 5, none⟩ = some (.string ⟨#[98, 97, 115, 105, 99]⟩)
  c6 : w.cell? ⟨0, 6, none⟩ = some (.string ⟨#[98, 97, 99, 107]⟩)
theorem WdAt.facts {w : World} (h : WdAt w) : WdF w := ⟨h.2 0 (by decide), h.2 1 (by decide), h.2 2 (by decide), h.2 3 (by decide), h.2 4 (by decide), h.2 5 (by decide), h.2 6 (by decide)⟩

theorem empty_bs {t : List UInt8} (ht : t ≠ []) : (bs t).toList.isEmpty = false := by
  rw [ByteArray.toList_eq]
  cases t with
  | nil => exact absurd rfl ht
  | cons c t => rfl
/-- A kind, as a switch over it tells it. -/
theorem kind_ways (k : Int) : k = 0 ∨ k = 1 ∨ k = 2 ∨ k = 3 ∨ k = 4 ∨ k = 5 ∨ k = 6 ∨ (k ≠ 0 ∧ k ≠ 1 ∧ k ≠ 2 ∧ k ≠ 3 ∧ k ≠ 4 ∧ k ≠ 5 ∧ k ≠ 6) := by omega
structure OtherK (k : Int) : Prop where
  d0 : (k == 0) = false
  d1 : (k == 1) = false
  d2 : (k == 2) = false
  d3 : (k == 3) = false
  d4 : (k == 4) = false
  d5 : (k == 5) = false
  d6 : (k == 6) = false
theorem other_k {k : Int} (h : k ≠ 0 ∧ k ≠ 1 ∧ k ≠ 2 ∧ k ≠ 3 ∧ k ≠ 4 ∧ k ≠ 5 ∧ k ≠ 6) : OtherK k :=
  ⟨beq_false_of_ne h.1, beq_false_of_ne h.2.1, beq_false_of_ne h.2.2.1, beq_false_of_ne h.2.2.2.1, beq_false_of_ne h.2.2.2.2.1, beq_false_of_ne h.2.2.2.2.2.1, beq_false_of_ne h.2.2.2.2.2.2⟩

set_option maxHeartbeats 1600000 in
theorem nam_text (k n : Int) (t : List UInt8) (hk : k = 0) (w : World) :
    Calls Tryz.prog 53 #[ddV (k, n, t)] w fun e w' => e = .returned (.bool t.isEmpty) ∧ w.grownBy w' none := by
  subst hk
  unfold ddV
  by_cases ht : t = []
  · subst ht
    rw [show bs ([] : List UInt8) = ⟨#[]⟩ from rfl]
    go_enter Tryz.func53, Tryz.ntmps53
    go_wp2
    go_ret
    exact ⟨rfl, World.grownBy_alloc _ _ none⟩
  · have he := empty_bs ht
    have h2 : t.isEmpty = false := by cases t with | nil => exact absurd rfl ht | cons _ _ => rfl
    go_enter Tryz.func53, Tryz.ntmps53
    go_wp2
    go_ret
    rw [h2]
    exact ⟨rfl, World.grownBy_alloc _ _ none⟩
set_option maxHeartbeats 1600000 in
theorem nam_num (k n : Int) (t : List UInt8) (hk : k = 1 ∨ k = 3 ∨ k = 4) (w : World) :
    Calls Tryz.prog 53 #[ddV (k, n, t)] w fun e w' => e = .returned (.bool (n == 0)) ∧ w.grownBy w' none := by
  unfold ddV
  rcases hk with rfl | rfl | rfl
  all_goals
    go_enter Tryz.func53, Tryz.ntmps53
    go_wp2
    go_ret
    exact ⟨rfl, World.grownBy_alloc _ _ none⟩
set_option maxHeartbeats 1600000 in
theorem nam_both (k n : Int) (t : List UInt8) (h0 : (k == 0) = false) (h1 : (k == 1) = false) (h3 : (k == 3) = false) (h4 : (k == 4) = false) (w : World) :
    Calls Tryz.prog 53 #[ddV (k, n, t)] w fun e w' => e = .returned (.bool (n == 0 && t.isEmpty)) ∧ w.grownBy w' none := by
  unfold ddV
  by_cases hn : n = 0
  · subst hn
    by_cases ht : t = []
    · subst ht
      rw [show bs ([] : List UInt8) = ⟨#[]⟩ from rfl]
      go_enter Tryz.func53, Tryz.ntmps53
      go_wp2
      go_ret
      exact ⟨rfl, World.grownBy_alloc _ _ none⟩
    · have he := empty_bs ht
      have h2 : t.isEmpty = false := by cases t with | nil => exact absurd rfl ht | cons _ _ => rfl
      go_enter Tryz.func53, Tryz.ntmps53
      go_wp2
      go_ret
      rw [h2]
      exact ⟨rfl, World.grownBy_alloc _ _ none⟩
  · have hn2 : (n == 0) = false := beq_false_of_ne hn
    go_enter Tryz.func53, Tryz.ntmps53
    go_wp2
    go_ret
    rw [hn2]
    exact ⟨rfl, World.grownBy_alloc _ _ none⟩

end Go.Proofs.YtlnffpofbfigaaaGreatDoor

/-
  The text of a deed: impl's DeedText.
-/
namespace Go.Proofs.YtlnffpofbfigaaaGreatDoor
open Go.RowKit

def TxPost (a : Dd) (w : World) (e : Ending) (w' : World) : Prop := e = .returned (.string (bs (txD a))) ∧ w.grownBy w' none
theorem tx_k0 {n : Int} {t : List UInt8} (h : ¬ (t = [] ∧ inB n 0 9 = true)) : txD (0, n, t) = [] := by
  refine tx_none fun s hs => ?_
  cases hs with | chain k hk => exact h ⟨rfl, inB_t (by omega)⟩
theorem tx_kf {k n : Int} {t : List UInt8} (hk : k = 1 ∨ k = 3 ∨ k = 4) (h : ¬ (n = 0 ∧ isF t = true)) : txD (k, n, t) = [] := by
  refine tx_none fun s hs => ?_
  cases hs with
  | chain k hk => rcases hk with h | h | h <;> cases h
  | say _ hf => exact h ⟨rfl, hf⟩
  | times _ hf => exact h ⟨rfl, hf⟩
  | ifs _ hf => exact h ⟨rfl, hf⟩
  | nots => rcases hk with h | h | h <;> cases h
  | basic => rcases hk with h | h | h <;> cases h
  | back => rcases hk with h | h | h <;> cases h
theorem tx_kw {k n : Int} {t : List UInt8} (hk : k = 2 ∨ k = 5 ∨ k = 6) (h : ¬ (n = 0 ∧ t = [])) : txD (k, n, t) = [] := by
  refine tx_none fun s hs => ?_
  cases hs with
  | chain k hk => rcases hk with h | h | h <;> cases h
  | say _ hf => rcases hk with h | h | h <;> cases h
  | times _ hf => rcases hk with h | h | h <;> cases h
  | ifs _ hf => rcases hk with h | h | h <;> cases h
  | nots => exact h ⟨rfl, rfl⟩
  | basic => exact h ⟨rfl, rfl⟩
  | back => exact h ⟨rfl, rfl⟩
theorem tx_ko {k n : Int} {t : List UInt8} (h : k ≠ 0 ∧ k ≠ 1 ∧ k ≠ 2 ∧ k ≠ 3 ∧ k ≠ 4 ∧ k ≠ 5 ∧ k ≠ 6) : txD (k, n, t) = [] := by
  refine tx_none fun s hs => ?_
  cases hs with
  | chain _ _ => exact h.1 rfl
  | say _ hf => exact h.2.1 rfl
  | times _ hf => exact h.2.2.2.1 rfl
  | ifs _ hf => exact h.2.2.2.2.1 rfl
  | nots => exact h.2.2.1 rfl
  | basic => exact h.2.2.2.2.2.1 rfl
  | back => exact h.2.2.2.2.2.2 rfl
/-- Its names are wrong. -/
theorem itx_bad (a : Dd) (w : World) (hn : ∀ w, Calls Tryz.prog 53 #[ddV a] w fun e w' => e = .returned (.bool false) ∧ w.grownBy w' none) (ht : txD a = []) :
    Calls Tryz.prog 15 #[ddV a] w (TxPost a w) := by
  unfold TxPost
  rw [ht]
  unfold ddV at hn ⊢
  go_enter Tryz.func15, Tryz.ntmps15
  go_wp2_with (first | (go_at_call 53; refine (hn _).mono ?_; rintro e w' ⟨rfl, hg⟩))
  go_ret
  exact ⟨rfl, grownBy_trans (World.grownBy_alloc _ _ none) hg⟩

theorem box_names {w w' : World} {u v x : Value} (hT : WdAt w) (hg : (w.alloc (.cells #[u, v, x] 40)).grownBy w' none) : (w'.cell? ⟨w.heap.size, 0, none⟩ = some u ∧ w'.cell? ⟨w.heap.size, 1, none⟩ = some v ∧ w'.cell? ⟨w.heap.size, 2, none⟩ = some x) ∧ WdF w' ∧ w.grownBy w' none :=
  ⟨((CellsAt.new w #[u, v, x] _).grown hg).three, (hT.grown (grownBy_trans (World.grownBy_alloc _ _ none) hg)).facts, grownBy_trans (World.grownBy_alloc _ _ none) hg⟩
theorem box_more {w w1 w' : World} {u v x : Value} (hT : WdAt w) (hg : (w.alloc (.cells #[u, v, x] 40)).grownBy w1 none) (h1 : w1.grownBy w' none) : (w'.cell? ⟨w.heap.size, 0, none⟩ = some u ∧ w'.cell? ⟨w.heap.size, 1, none⟩ = some v ∧ w'.cell? ⟨w.heap.size, 2, none⟩ = some x) ∧ WdF w' ∧ w.grownBy w' none := box_names hT (grownBy_trans hg h1)

set_option maxHeartbeats 1600000 in
theorem itx_chain (n : Int) (w : World) (hT : WdAt w) (hb : inB n 0 9 = true) :
    Calls Tryz.prog 15 #[ddV (0, n, [])] w (TxPost (0, n, []) w) := by
  have hn := nam_text 0 n [] rfl
  have ci := ito9_any n hb
  have hx : bs (txD (0, n, [])) = bs [99, 104, 97, 105, 110] ++ ⟨#[32]⟩ ++ bs (oneD n) := by unfold txD; rw [if_pos ⟨rfl, rfl, hb⟩]; rfl
  have hi := inB_of hb
  unfold TxPost
  rw [hx]
  clear hx
  have HT := Lib.hid hT
  unfold ddV at hn ⊢
  go_enter Tryz.func15, Tryz.ntmps15
  go_wp2_with (first | (go_at_call 53; refine (hn _).mono ?_; rintro e w' ⟨rfl, hg⟩; obtain ⟨⟨b0, b1, b2⟩, ⟨c0, c1, c2, c3, c4, c5, c6⟩, gg⟩ := box_names HT.out hg) | (go_at_call 54; refine (ci _).mono ?_; rintro e w' ⟨rfl, rfl⟩))
  go_region_with (go_at_call 54; refine (ci _).mono ?_; rintro e w' ⟨rfl, rfl⟩)
  all_goals go_wp2
  all_goals go_ret
  all_goals first | exact ⟨rfl, gg⟩ | exact ⟨rfl, grownBy_drew gg⟩

set_option maxHeartbeats 1600000 in
theorem itx_chain_no (n : Int) (w : World) (hT : WdAt w) (hb : inB n 0 9 = false) :
    Calls Tryz.prog 15 #[ddV (0, n, [])] w (TxPost (0, n, []) w) := by
  have hn := nam_text 0 n [] rfl
  have hx : txD (0, n, []) = [] := tx_k0 (by rw [hb]; simp)
  have hi : n < 0 ∨ (¬ n < 0 ∧ 9 < n) := by
    by_cases h0 : n < 0
    · exact .inl h0
    · refine .inr ⟨h0, ?_⟩
      by_cases h9 : 9 < n
      · exact h9
      · rw [inB_t (by omega)] at hb; cases hb
  unfold TxPost
  rw [hx]
  clear hx
  have HT := Lib.hid hT
  unfold ddV at hn ⊢
  rcases hi with hi | ⟨hi, hj⟩
  all_goals
    go_enter Tryz.func15, Tryz.ntmps15
    go_wp2_with (first | (go_at_call 53; refine (hn _).mono ?_; rintro e w' ⟨rfl, hg⟩; obtain ⟨⟨b0, b1, b2⟩, ⟨c0, c1, c2, c3, c4, c5, c6⟩, gg⟩ := box_names HT.out hg))
    go_ret
    exact ⟨rfl, gg⟩

set_option maxHeartbeats 1600000 in
theorem itx_form (k : Int) (t : List UInt8) (w : World) (hT : WdAt w) (hk : k = 1 ∨ k = 3 ∨ k = 4) :
    Calls Tryz.prog 15 #[ddV (k, 0, t)] w (TxPost (k, 0, t) w) := by
  have hn := nam_num k 0 t hk
  have cf := form_any (bs t)
  rw [bl_bs] at cf
  have HT := Lib.hid hT
  clear hT
  cases hf : isF t
  · rw [hf] at cf
    have hx : txD (k, 0, t) = [] := tx_kf hk (by rw [hf]; simp)
    unfold TxPost
    rw [hx]
    clear hx
    unfold ddV at hn ⊢
    rcases hk with rfl | rfl | rfl
    all_goals
      go_enter Tryz.func15, Tryz.ntmps15
      go_wp2_with (first | (go_at_call 53; refine (hn _).mono ?_; rintro e w' ⟨rfl, hg⟩; obtain ⟨⟨b0, b1, b2⟩, _, gg⟩ := box_names HT.out hg) | (go_at_call 55; refine (cf _).mono ?_; rintro e w2 ⟨rfl, h2⟩))
      go_ret
      exact ⟨rfl, grownBy_trans gg h2⟩
  · rw [hf] at cf
    have hx : bs (txD (k, 0, t)) = bs (wordsL.getD k.toNat []) ++ ⟨#[32]⟩ ++ bs t := by
      rw [show (⟨#[32]⟩ : ByteArray) = bs [32] from rfl, bs_app, bs_app]
      rcases hk with rfl | rfl | rfl
      · rw [tx_told (Told.say t hf)]; rfl
      · rw [tx_told (Told.times t hf)]; rfl
      · rw [tx_told (Told.ifs t hf)]; rfl
    have zt := bs_size t
    have zl := isF_len hf
    unfold TxPost
    rw [hx]
    clear hx
    unfold ddV at hn ⊢
    rcases hk with rfl | rfl | rfl
    all_goals
      go_enter Tryz.func15, Tryz.ntmps15
      go_wp2_with (first | (go_at_call 53; refine (hn _).mono ?_; rintro e w' ⟨rfl, hg⟩; obtain ⟨⟨b0, b1, b2⟩, _, _⟩ := box_names HT.out hg; have HG := Lib.hid hg) | (go_at_call 55; refine (cf _).mono ?_; rintro e w2 ⟨rfl, h2⟩; obtain ⟨⟨b3, b4, b5⟩, ⟨c0, c1, c2, c3, c4, c5, c6⟩, gg⟩ := box_more HT.out HG.out h2))
      go_region_with fail
      all_goals go_wp2
      all_goals go_ret
      all_goals first | exact ⟨rfl, gg⟩ | exact ⟨rfl, grownBy_drew gg⟩

set_option maxHeartbeats 1600000 in
theorem itx_word (k : Int) (w : World) (hT : WdAt w) (hk : k = 2 ∨ k = 5 ∨ k = 6) :
    Calls Tryz.prog 15 #[ddV (k, 0, [])] w (TxPost (k, 0, []) w) := by
  have hn := nam_both k 0 [] (by rcases hk with rfl | rfl | rfl <;> rfl) (by rcases hk with rfl | rfl | rfl <;> rfl) (by rcases hk with rfl | rfl | rfl <;> rfl) (by rcases hk with rfl | rfl | rfl <;> rfl)
  have hx : bs (txD (k, 0, [])) = bs (wordsL.getD k.toNat []) := by rcases hk with rfl | rfl | rfl <;> rfl
  unfold TxPost
  rw [hx]
  clear hx
  have HT := Lib.hid hT
  unfold ddV at hn ⊢
  rcases hk with rfl | rfl | rfl
  all_goals
    go_enter Tryz.func15, Tryz.ntmps15
    go_wp2_with (first | (go_at_call 53; refine (hn _).mono ?_; rintro e w' ⟨rfl, hg⟩; obtain ⟨⟨b0, b1, b2⟩, ⟨c0, c1, c2, c3, c4, c5, c6⟩, gg⟩ := box_names HT.out hg))
    go_ret
    exact ⟨rfl, gg⟩

set_option maxHeartbeats 1600000 in
theorem itx_other (k : Int) (w : World) (hT : WdAt w) (hk : k ≠ 0 ∧ k ≠ 1 ∧ k ≠ 2 ∧ k ≠ 3 ∧ k ≠ 4 ∧ k ≠ 5 ∧ k ≠ 6) :
    Calls Tryz.prog 15 #[ddV (k, 0, [])] w (TxPost (k, 0, []) w) := by
  obtain ⟨d0, d1, d2, d3, d4, d5, d6⟩ := other_k hk
  have hn := nam_both k 0 [] d0 d1 d3 d4
  have hx : txD (k, 0, []) = [] := tx_ko hk
  unfold TxPost
  rw [hx]
  clear hx hk
  have HT := Lib.hid hT
  unfold ddV at hn ⊢
  go_enter Tryz.func15, Tryz.ntmps15
  go_wp2_with (first | (go_at_call 53; refine (hn _).mono ?_; rintro e w' ⟨rfl, hg⟩; obtain ⟨⟨b0, b1, b2⟩, ⟨c0, c1, c2, c3, c4, c5, c6⟩, gg⟩ := box_names HT.out hg))
  go_ret
  exact ⟨rfl, gg⟩

theorem itx_any (a : Dd) (w : World) (hT : WdAt w) : Calls Tryz.prog 15 #[ddV a] w (TxPost a w) := by
  obtain ⟨k, n, t⟩ := a
  rcases kind_ways k with rfl | hk
  · by_cases ht : t = []
    · subst ht
      cases hb : inB n 0 9
      · exact itx_chain_no n w hT hb
      · exact itx_chain n w hT hb
    · have he : t.isEmpty = false := by cases t with | nil => exact absurd rfl ht | cons _ _ => rfl
      exact itx_bad _ w (fun w => by have := nam_text 0 n t rfl w; rwa [he] at this) (tx_k0 fun h => ht h.1)
  · have hf : ∀ k', (k' = 1 ∨ k' = 3 ∨ k' = 4) → k = k' → Calls Tryz.prog 15 #[ddV (k, n, t)] w (TxPost (k, n, t) w) := by
      rintro k' h3 rfl
      by_cases hn : n = 0
      · subst hn; exact itx_form k t w hT h3
      · exact itx_bad _ w (fun w => by have := nam_num k n t h3 w; rwa [beq_false_of_ne hn] at this) (tx_kf h3 fun h => hn h.1)
    have hb : ∀ (h0 : (k == 0) = false) (h1 : (k == 1) = false) (h3 : (k == 3) = false) (h4 : (k == 4) = false), (¬ (n = 0 ∧ t = []) → txD (k, n, t) = []) → (n = 0 ∧ t = [] → Calls Tryz.prog 15 #[ddV (k, 0, [])] w (TxPost (k, 0, []) w)) → Calls Tryz.prog 15 #[ddV (k, n, t)] w (TxPost (k, n, t) w) := by
      intro h0 h1 h3 h4 hx hy
      by_cases hnt : n = 0 ∧ t = []
      · obtain ⟨rfl, rfl⟩ := hnt; exact hy ⟨rfl, rfl⟩
      · refine itx_bad _ w (fun w => ?_) (hx hnt)
        have := nam_both k n t h0 h1 h3 h4 w
        have hz : (n == 0 && t.isEmpty) = false := by
          cases hq : (n == 0 && t.isEmpty)
          · rfl
          · rw [Bool.and_eq_true] at hq
            exact absurd ⟨eq_of_beq hq.1, List.isEmpty_iff.1 hq.2⟩ hnt
        rwa [hz] at this
    rcases hk with rfl | rfl | rfl | rfl | rfl | rfl | hk
    · exact hf 1 (by simp) rfl
    · exact hb rfl rfl rfl rfl (tx_kw (by simp)) fun _ => itx_word 2 w hT (by simp)
    · exact hf 3 (by simp) rfl
    · exact hf 4 (by simp) rfl
    · exact hb rfl rfl rfl rfl (tx_kw (by simp)) fun _ => itx_word 5 w hT (by simp)
    · exact hb rfl rfl rfl rfl (tx_kw (by simp)) fun _ => itx_word 6 w hT (by simp)
    · exact hb (other_k hk).d0 (other_k hk).d1 (other_k hk).d3 (other_k hk).d4 (fun _ => tx_ko hk) fun _ => itx_other k w hT hk

end Go.Proofs.YtlnffpofbfigaaaGreatDoor

/-
  The text of a deed: the model's DeedText.
-/
namespace Go.Proofs.YtlnffpofbfigaaaGreatDoor
open Go.RowKit

theorem byte1 (w : World) (c : UInt8) (n : Int) (hn : n = (c.toNat : Int)) :
    (convert 22 9 (.slice (some ⟨w.heap.size, 0, none⟩) 1 1)).run Tryz.prog (w.alloc (.cells #[.int .u8 n] 5)) = .ok (.string ⟨#[c]⟩) (w.alloc (.cells #[.int .u8 n] 5)) := by
  refine run_convert_bytes_back (P := Tryz.prog) _ 22 9 5 ⟨w.heap.size, 0, none⟩ 1 [c] Tryz.underlying22 Tryz.underlying5 Tryz.underlying9 (fun j hj => ?_)
  obtain rfl : j = 0 := by simpa using hj
  rw [add_none, World.cell?_alloc_mark, hn]
  rfl

theorem num9_any (k : Int) (h : inB k 0 9 = true) (w : World) :
    Calls Tryz.prog 62 #[.int .i64 k] w fun e w' => e = .returned (.string (bs (oneD k))) ∧ w.grownBy w' none := by
  rcases ten9 h with rfl | rfl | rfl | rfl | rfl | rfl | rfl | rfl | rfl | rfl
  all_goals
    clear h
    have h48 := byte1 w 48 48 rfl
    have h49 := byte1 w 49 49 rfl
    have h50 := byte1 w 50 50 rfl
    have h51 := byte1 w 51 51 rfl
    have h52 := byte1 w 52 52 rfl
    have h53 := byte1 w 53 53 rfl
    have h54 := byte1 w 54 54 rfl
    have h55 := byte1 w 55 55 rfl
    have h56 := byte1 w 56 56 rfl
    have h57 := byte1 w 57 57 rfl
    go_enter Tryz.func62, Tryz.ntmps62
    go_wp2_with fail
    go_ret
    exact ⟨retS (by decide), World.grownBy_alloc _ _ _⟩

theorem gaH {w w' : World} (A : Obj) (h : (w.alloc A).grownBy w' none) : w.grownBy w' none := grownBy_trans (World.grownBy_alloc w A none) h

set_option maxHeartbeats 1600000 in
theorem stx_chain (n : Int) (w : World) (hb : inB n 0 9 = true) :
    Calls Tryz.prog 90 #[ddV (0, n, [])] w (TxPost (0, n, []) w) := by
  have ci := num9_any n hb
  have cn := in_any n 0 9
  rw [hb] at cn
  have hx : bs (txD (0, n, [])) = ⟨#[99, 104, 97, 105, 110, 32]⟩ ++ bs (oneD n) := by unfold txD; rw [if_pos ⟨rfl, rfl, hb⟩]; rfl
  unfold TxPost
  rw [hx]
  clear hx
  unfold ddV
  rw [show bs ([] : List UInt8) = ⟨#[]⟩ from rfl]
  go_enter Tryz.func90, Tryz.ntmps90
  go_wp2_with (first | (go_at_call 96; refine (cn _).mono ?_; rintro e w' ⟨rfl, rfl⟩) | (go_at_call 62; refine (ci _).mono ?_; rintro e w' ⟨rfl, hg⟩))
  go_ret
  exact ⟨rfl, gaH _ hg⟩

set_option maxHeartbeats 1600000 in
theorem stx_chain_no (n : Int) (w : World) (hb : inB n 0 9 = false) :
    Calls Tryz.prog 90 #[ddV (0, n, [])] w (TxPost (0, n, []) w) := by
  have cn := in_any n 0 9
  rw [hb] at cn
  have hx : txD (0, n, []) = [] := tx_k0 (by rw [hb]; simp)
  unfold TxPost
  rw [hx]
  clear hx
  unfold ddV
  rw [show bs ([] : List UInt8) = ⟨#[]⟩ from rfl]
  go_enter Tryz.func90, Tryz.ntmps90
  go_wp2_with (first | (go_at_call 96; refine (cn _).mono ?_; rintro e w' ⟨rfl, rfl⟩))
  go_ret
  exact ⟨rfl, World.grownBy_alloc _ _ none⟩

set_option maxHeartbeats 1600000 in
theorem stx_chain_t (n : Int) (t : List UInt8) (w : World) (ht : t ≠ []) :
    Calls Tryz.prog 90 #[ddV (0, n, t)] w (TxPost (0, n, t) w) := by
  have he := empty_bs ht
  have hx : txD (0, n, t) = [] := tx_k0 fun h => ht h.1
  unfold TxPost
  rw [hx]
  clear hx
  unfold ddV
  go_enter Tryz.func90, Tryz.ntmps90
  go_wp2
  go_ret
  exact ⟨rfl, World.grownBy_alloc _ _ none⟩

set_option maxHeartbeats 1600000 in
theorem stx_form (k : Int) (t : List UInt8) (w : World) (hk : k = 1 ∨ k = 3 ∨ k = 4) :
    Calls Tryz.prog 90 #[ddV (k, 0, t)] w (TxPost (k, 0, t) w) := by
  have cf := sform_any (bs t)
  rw [bl_bs] at cf
  cases hf : isF t
  · rw [hf] at cf
    have hx : txD (k, 0, t) = [] := tx_kf hk (by rw [hf]; simp)
    unfold TxPost
    rw [hx]
    clear hx
    unfold ddV
    rcases hk with rfl | rfl | rfl
    all_goals
      go_enter Tryz.func90, Tryz.ntmps90
      go_wp2_with (first | (go_at_call 74; refine (cf _).mono ?_; rintro e w2 ⟨rfl, rfl⟩))
      go_ret
      exact ⟨rfl, World.grownBy_alloc _ _ none⟩
  · rw [hf] at cf
    have zt := bs_size t
    have zl := isF_len hf
    have hx : bs (txD (k, 0, t)) = bs (wordsL.getD k.toNat [] ++ [32]) ++ bs t := by
      rw [bs_app]
      rcases hk with rfl | rfl | rfl
      · rw [tx_told (Told.say t hf)]; rfl
      · rw [tx_told (Told.times t hf)]; rfl
      · rw [tx_told (Told.ifs t hf)]; rfl
    unfold TxPost
    rw [hx]
    clear hx
    unfold ddV
    rcases hk with rfl | rfl | rfl
    all_goals
      go_enter Tryz.func90, Tryz.ntmps90
      go_wp2_with (first | (go_at_call 74; refine (cf _).mono ?_; rintro e w2 ⟨rfl, rfl⟩))
      go_ret
      exact ⟨rfl, World.grownBy_alloc _ _ none⟩

set_option maxHeartbeats 1600000 in
theorem stx_form_n (k n : Int) (t : List UInt8) (w : World) (hk : k = 1 ∨ k = 3 ∨ k = 4) (hn : n ≠ 0) :
    Calls Tryz.prog 90 #[ddV (k, n, t)] w (TxPost (k, n, t) w) := by
  have h0 : (n == 0) = false := beq_false_of_ne hn
  have hx : txD (k, n, t) = [] := tx_kf hk fun h => hn h.1
  unfold TxPost
  rw [hx]
  clear hx
  unfold ddV
  rcases hk with rfl | rfl | rfl
  all_goals
    go_enter Tryz.func90, Tryz.ntmps90
    go_wp2
    go_ret
    exact ⟨rfl, World.grownBy_alloc _ _ none⟩

set_option maxHeartbeats 1600000 in
theorem stx_word (k : Int) (w : World) (hk : k = 2 ∨ k = 5 ∨ k = 6) :
    Calls Tryz.prog 90 #[ddV (k, 0, [])] w (TxPost (k, 0, []) w) := by
  have hx : bs (txD (k, 0, [])) = bs (wordsL.getD k.toNat []) := by rcases hk with rfl | rfl | rfl <;> rfl
  unfold TxPost
  rw [hx]
  clear hx
  unfold ddV
  rw [show bs ([] : List UInt8) = ⟨#[]⟩ from rfl]
  rcases hk with rfl | rfl | rfl
  all_goals
    go_enter Tryz.func90, Tryz.ntmps90
    go_wp2
    go_ret
    first | exact ⟨rfl, World.grownBy_alloc _ _ none⟩

set_option maxHeartbeats 1600000 in
theorem stx_word_n (k n : Int) (t : List UInt8) (w : World) (hk : k = 2 ∨ k = 5 ∨ k = 6) (hn : n ≠ 0) :
    Calls Tryz.prog 90 #[ddV (k, n, t)] w (TxPost (k, n, t) w) := by
  have h0 : (n == 0) = false := beq_false_of_ne hn
  have hx : txD (k, n, t) = [] := tx_kw hk fun h => hn h.1
  unfold TxPost
  rw [hx]
  clear hx
  unfold ddV
  rcases hk with rfl | rfl | rfl
  all_goals
    go_enter Tryz.func90, Tryz.ntmps90
    go_wp2
    go_ret
    exact ⟨rfl, World.grownBy_alloc _ _ none⟩

set_option maxHeartbeats 1600000 in
theorem stx_word_t (k : Int) (t : List UInt8) (w : World) (hk : k = 2 ∨ k = 5 ∨ k = 6) (ht : t ≠ []) :
    Calls Tryz.prog 90 #[ddV (k, 0, t)] w (TxPost (k, 0, t) w) := by
  have he := empty_bs ht
  have hx : txD (k, 0, t) = [] := tx_kw hk fun h => ht h.2
  unfold TxPost
  rw [hx]
  clear hx
  unfold ddV
  rcases hk with rfl | rfl | rfl
  all_goals
    go_enter Tryz.func90, Tryz.ntmps90
    go_wp2
    go_ret
    exact ⟨rfl, World.grownBy_alloc _ _ none⟩

set_option maxHeartbeats 1600000 in
theorem stx_other (k n : Int) (t : List UInt8) (w : World) (hk : k ≠ 0 ∧ k ≠ 1 ∧ k ≠ 2 ∧ k ≠ 3 ∧ k ≠ 4 ∧ k ≠ 5 ∧ k ≠ 6) :
    Calls Tryz.prog 90 #[ddV (k, n, t)] w (TxPost (k, n, t) w) := by
  have hx : txD (k, n, t) = [] := tx_ko hk
  obtain ⟨d0, d1, d2, d3, d4, d5, d6⟩ := other_k hk
  unfold TxPost
  rw [hx]
  clear hx hk
  unfold ddV
  go_enter Tryz.func90, Tryz.ntmps90
  go_wp2
  go_ret
  exact ⟨rfl, World.grownBy_alloc _ _ none⟩

theorem stx_any (a : Dd) (w : World) : Calls Tryz.prog 90 #[ddV a] w (TxPost a w) := by
  obtain ⟨k, n, t⟩ := a
  have hfm : (k = 1 ∨ k = 3 ∨ k = 4) → Calls Tryz.prog 90 #[ddV (k, n, t)] w (TxPost (k, n, t) w) := by
    intro h3
    by_cases hn : n = 0
    · subst hn; exact stx_form k t w h3
    · exact stx_form_n k n t w h3 hn
  have hwd : (k = 2 ∨ k = 5 ∨ k = 6) → Calls Tryz.prog 90 #[ddV (k, n, t)] w (TxPost (k, n, t) w) := by
    intro h3
    by_cases hn : n = 0
    · subst hn
      by_cases ht : t = []
      · subst ht; exact stx_word k w h3
      · exact stx_word_t k t w h3 ht
    · exact stx_word_n k n t w h3 hn
  rcases kind_ways k with rfl | hk
  · by_cases ht : t = []
    · subst ht
      cases hb : inB n 0 9
      · exact stx_chain_no n w hb
      · exact stx_chain n w hb
    · exact stx_chain_t n t w ht
  · rcases hk with h | h | h | h | h | h | hk
    · exact hfm (.inl h)
    · exact hwd (.inl h)
    · exact hfm (.inr (.inl h))
    · exact hfm (.inr (.inr h))
    · exact hwd (.inr (.inl h))
    · exact hwd (.inr (.inr h))
    · exact stx_other k n t w hk

end Go.Proofs.YtlnffpofbfigaaaGreatDoor
