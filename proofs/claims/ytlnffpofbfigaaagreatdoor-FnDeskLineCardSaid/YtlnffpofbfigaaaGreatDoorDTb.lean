/-
  The text of a deed: impl's DeedText.
-/
import Derived.Test.YtlnffpofbfigaaaGreatDoorDTa
import Derived.Test.YtlnffpofbfigaaaGreatDoorDMade
namespace Go.Proofs.YtlnffpofbfigaaaGreatDoor
open Go.RowKit

def TxPost (a : Dd) (w : World) (e : Ending) (w' : World) : Prop := e = .returned (.string (bs (txD a))) ∧ w.grownBy w' none
theorem tx_k0 {n : Int} {t : List UInt8} (h : ¬ (t = [] ∧ inB n 0 9 = true)) : txD (0, n, t) = [] := by
  refine tx_none fun s hs => ?_
  cases hs with | chain k hk => exact h ⟨rfl, inB_t (by omega)⟩
theorem tx_kf {k n : Int} {t : List UInt8} (hk : k = 1 ∨ k = 3 ∨ k = 4) (h : ¬ (n = 0 ∧ isF t = true)) : txD (k, n, t) = [] := by
  refine tx_none fun s hs => ?_
  cases hs with
  | chain k hk => rcases hk with h | h | h <;> cases h
  | say _ hf => exact h ⟨rfl, hf⟩
  | times _ hf => exact h ⟨rfl, hf⟩
  | ifs _ hf => exact h ⟨rfl, hf⟩
  | nots => rcases hk with h | h | h <;> cases h
  | basic => rcases hk with h | h | h <;> cases h
  | back => rcases hk with h | h | h <;> cases h
theorem tx_kw {k n : Int} {t : List UInt8} (hk : k = 2 ∨ k = 5 ∨ k = 6) (h : ¬ (n = 0 ∧ t = [])) : txD (k, n, t) = [] := by
  refine tx_none fun s hs => ?_
  cases hs with
  | chain k hk => rcases hk with h | h | h <;> cases h
  | say _ hf => rcases hk with h | h | h <;> cases h
  | times _ hf => rcases hk with h | h | h <;> cases h
  | ifs _ hf => rcases hk with h | h | h <;> cases h
  | nots => exact h ⟨rfl, rfl⟩
  | basic => exact h ⟨rfl, rfl⟩
  | back => exact h ⟨rfl, rfl⟩
theorem tx_ko {k n : Int} {t : List UInt8} (h : k ≠ 0 ∧ k ≠ 1 ∧ k ≠ 2 ∧ k ≠ 3 ∧ k ≠ 4 ∧ k ≠ 5 ∧ k ≠ 6) : txD (k, n, t) = [] := by
  refine tx_none fun s hs => ?_
  cases hs with
  | chain _ _ => exact h.1 rfl
  | say _ hf => exact h.2.1 rfl
  | times _ hf => exact h.2.2.2.1 rfl
  | ifs _ hf => exact h.2.2.2.2.1 rfl
  | nots => exact h.2.2.1 rfl
  | basic => exact h.2.2.2.2.2.1 rfl
  | back => exact h.2.2.2.2.2.2 rfl
theorem retB {s : ByteArray} {l : List UInt8} (h : s = bs l) : Ending.returned (.string s) = .returned (.string (bs l)) := by rw [h]

/-- Its names are wrong. -/
theorem itx_bad (a : Dd) (w : World) (hn : ∀ w, Calls Tryz.prog 53 #[ddV a] w fun e w' => e = .returned (.bool false) ∧ w.grownBy w' none) (ht : txD a = []) :
    Calls Tryz.prog 15 #[ddV a] w (TxPost a w) := by
  unfold TxPost
  rw [ht]
  unfold ddV at hn ⊢
  go_enter Tryz.func15, Tryz.ntmps15
  go_wp2_with (first | (go_at_call 53; refine (hn _).mono ?_; rintro e w' ⟨rfl, hg⟩))
  go_ret
  exact ⟨rfl, grownBy_trans (World.grownBy_alloc _ _ none) hg⟩

theorem box_names {w w' : World} {u v x : Value} (hT : WdAt w) (hg : (w.alloc (.cells #[u, v, x] 40)).grownBy w' none) : (w'.cell? ⟨w.heap.size, 0, none⟩ = some u ∧ w'.cell? ⟨w.heap.size, 1, none⟩ = some v ∧ w'.cell? ⟨w.heap.size, 2, none⟩ = some x) ∧ WdF w' ∧ w.grownBy w' none :=
  ⟨((CellsAt.new w #[u, v, x] _).grown hg).three, (hT.grown (grownBy_trans (World.grownBy_alloc _ _ none) hg)).facts, grownBy_trans (World.grownBy_alloc _ _ none) hg⟩
theorem box_more {w w1 w' : World} {u v x : Value} (hT : WdAt w) (hg : (w.alloc (.cells #[u, v, x] 40)).grownBy w1 none) (h1 : w1.grownBy w' none) : (w'.cell? ⟨w.heap.size, 0, none⟩ = some u ∧ w'.cell? ⟨w.heap.size, 1, none⟩ = some v ∧ w'.cell? ⟨w.heap.size, 2, none⟩ = some x) ∧ WdF w' ∧ w.grownBy w' none := box_names hT (grownBy_trans hg h1)

set_option maxHeartbeats 1600000 in
theorem itx_chain (n : Int) (w : World) (hT : WdAt w) (hb : inB n 0 9 = true) :
    Calls Tryz.prog 15 #[ddV (0, n, [])] w (TxPost (0, n, []) w) := by
  have hn := nam_text 0 n [] rfl
  have ci := ito9_any n hb
  have hx : bs (txD (0, n, [])) = bs [99, 104, 97, 105, 110] ++ ⟨#[32]⟩ ++ bs (oneD n) := by unfold txD; rw [if_pos ⟨rfl, rfl, hb⟩]; rfl
  have hi := inB_of hb
  unfold TxPost
  rw [hx]
  clear hx
  have HT := Lib.hid hT
  unfold ddV at hn ⊢
  go_enter Tryz.func15, Tryz.ntmps15
  go_wp2_with (first | (go_at_call 53; refine (hn _).mono ?_; rintro e w' ⟨rfl, hg⟩; obtain ⟨⟨b0, b1, b2⟩, ⟨c0, c1, c2, c3, c4, c5, c6⟩, gg⟩ := box_names HT.out hg) | (go_at_call 54; refine (ci _).mono ?_; rintro e w' ⟨rfl, rfl⟩))
  go_region_with (go_at_call 54; refine (ci _).mono ?_; rintro e w' ⟨rfl, rfl⟩)
  all_goals go_wp2
  all_goals go_ret
  all_goals first | exact ⟨rfl, gg⟩ | exact ⟨rfl, grownBy_drew gg⟩

set_option maxHeartbeats 1600000 in
theorem itx_chain_no (n : Int) (w : World) (hT : WdAt w) (hb : inB n 0 9 = false) :
    Calls Tryz.prog 15 #[ddV (0, n, [])] w (TxPost (0, n, []) w) := by
  have hn := nam_text 0 n [] rfl
  have hx : txD (0, n, []) = [] := tx_k0 (by rw [hb]; simp)
  have hi : n < 0 ∨ (¬ n < 0 ∧ 9 < n) := by
    by_cases h0 : n < 0
    · exact .inl h0
    · refine .inr ⟨h0, ?_⟩
      by_cases h9 : 9 < n
      · exact h9
      · rw [inB_t (by omega)] at hb; cases hb
  unfold TxPost
  rw [hx]
  clear hx
  have HT := Lib.hid hT
  unfold ddV at hn ⊢
  rcases hi with hi | ⟨hi, hj⟩
  all_goals
    go_enter Tryz.func15, Tryz.ntmps15
    go_wp2_with (first | (go_at_call 53; refine (hn _).mono ?_; rintro e w' ⟨rfl, hg⟩; obtain ⟨⟨b0, b1, b2⟩, ⟨c0, c1, c2, c3, c4, c5, c6⟩, gg⟩ := box_names HT.out hg))
    go_ret
    exact ⟨rfl, gg⟩

set_option maxHeartbeats 1600000 in
theorem itx_form (k : Int) (t : List UInt8) (w : World) (hT : WdAt w) (hk : k = 1 ∨ k = 3 ∨ k = 4) :
    Calls Tryz.prog 15 #[ddV (k, 0, t)] w (TxPost (k, 0, t) w) := by
  have hn := nam_num k 0 t hk
  have cf := form_any (bs t)
  rw [bl_bs] at cf
  have HT := Lib.hid hT
  clear hT
  cases hf : isF t
  · rw [hf] at cf
    have hx : txD (k, 0, t) = [] := tx_kf hk (by rw [hf]; simp)
    unfold TxPost
    rw [hx]
    clear hx
    unfold ddV at hn ⊢
    rcases hk with rfl | rfl | rfl
    all_goals
      go_enter Tryz.func15, Tryz.ntmps15
      go_wp2_with (first | (go_at_call 53; refine (hn _).mono ?_; rintro e w' ⟨rfl, hg⟩; obtain ⟨⟨b0, b1, b2⟩, _, gg⟩ := box_names HT.out hg) | (go_at_call 55; refine (cf _).mono ?_; rintro e w2 ⟨rfl, h2⟩))
      go_ret
      exact ⟨rfl, grownBy_trans gg h2⟩
  · rw [hf] at cf
    have hx : bs (txD (k, 0, t)) = bs (wordsL.getD k.toNat []) ++ ⟨#[32]⟩ ++ bs t := by
      rw [show (⟨#[32]⟩ : ByteArray) = bs [32] from rfl, bs_app, bs_app]
      rcases hk with rfl | rfl | rfl
      · rw [tx_told (Told.say t hf)]; rfl
      · rw [tx_told (Told.times t hf)]; rfl
      · rw [tx_told (Told.ifs t hf)]; rfl
    have zt := bs_size t
    have zl := isF_len hf
    unfold TxPost
    rw [hx]
    clear hx
    unfold ddV at hn ⊢
    rcases hk with rfl | rfl | rfl
    all_goals
      go_enter Tryz.func15, Tryz.ntmps15
      go_wp2_with (first | (go_at_call 53; refine (hn _).mono ?_; rintro e w' ⟨rfl, hg⟩; obtain ⟨⟨b0, b1, b2⟩, _, _⟩ := box_names HT.out hg; have HG := Lib.hid hg) | (go_at_call 55; refine (cf _).mono ?_; rintro e w2 ⟨rfl, h2⟩; obtain ⟨⟨b3, b4, b5⟩, ⟨c0, c1, c2, c3, c4, c5, c6⟩, gg⟩ := box_more HT.out HG.out h2))
      go_region_with fail
      all_goals go_wp2
      all_goals go_ret
      all_goals first | exact ⟨rfl, gg⟩ | exact ⟨rfl, grownBy_drew gg⟩

set_option maxHeartbeats 1600000 in
theorem itx_word (k : Int) (w : World) (hT : WdAt w) (hk : k = 2 ∨ k = 5 ∨ k = 6) :
    Calls Tryz.prog 15 #[ddV (k, 0, [])] w (TxPost (k, 0, []) w) := by
  have hn := nam_both k 0 [] (by rcases hk with rfl | rfl | rfl <;> rfl) (by rcases hk with rfl | rfl | rfl <;> rfl) (by rcases hk with rfl | rfl | rfl <;> rfl) (by rcases hk with rfl | rfl | rfl <;> rfl)
  have hx : bs (txD (k, 0, [])) = bs (wordsL.getD k.toNat []) := by rcases hk with rfl | rfl | rfl <;> rfl
  unfold TxPost
  rw [hx]
  clear hx
  have HT := Lib.hid hT
  unfold ddV at hn ⊢
  rcases hk with rfl | rfl | rfl
  all_goals
    go_enter Tryz.func15, Tryz.ntmps15
    go_wp2_with (first | (go_at_call 53; refine (hn _).mono ?_; rintro e w' ⟨rfl, hg⟩; obtain ⟨⟨b0, b1, b2⟩, ⟨c0, c1, c2, c3, c4, c5, c6⟩, gg⟩ := box_names HT.out hg))
    go_ret
    exact ⟨rfl, gg⟩

set_option maxHeartbeats 1600000 in
theorem itx_other (k : Int) (w : World) (hT : WdAt w) (hk : k ≠ 0 ∧ k ≠ 1 ∧ k ≠ 2 ∧ k ≠ 3 ∧ k ≠ 4 ∧ k ≠ 5 ∧ k ≠ 6) :
    Calls Tryz.prog 15 #[ddV (k, 0, [])] w (TxPost (k, 0, []) w) := by
  obtain ⟨d0, d1, d2, d3, d4, d5, d6⟩ := other_k hk
  have hn := nam_both k 0 [] d0 d1 d3 d4
  have hx : txD (k, 0, []) = [] := tx_ko hk
  unfold TxPost
  rw [hx]
  clear hx hk
  have HT := Lib.hid hT
  unfold ddV at hn ⊢
  go_enter Tryz.func15, Tryz.ntmps15
  go_wp2_with (first | (go_at_call 53; refine (hn _).mono ?_; rintro e w' ⟨rfl, hg⟩; obtain ⟨⟨b0, b1, b2⟩, ⟨c0, c1, c2, c3, c4, c5, c6⟩, gg⟩ := box_names HT.out hg))
  go_ret
  exact ⟨rfl, gg⟩

theorem itx_any (a : Dd) (w : World) (hT : WdAt w) : Calls Tryz.prog 15 #[ddV a] w (TxPost a w) := by
  obtain ⟨k, n, t⟩ := a
  rcases kind_ways k with rfl | hk
  · by_cases ht : t = []
    · subst ht
      cases hb : inB n 0 9
      · exact itx_chain_no n w hT hb
      · exact itx_chain n w hT hb
    · have he : t.isEmpty = false := by cases t with | nil => exact absurd rfl ht | cons _ _ => rfl
      exact itx_bad _ w (fun w => by have := nam_text 0 n t rfl w; rwa [he] at this) (tx_k0 fun h => ht h.1)
  · have hf : ∀ k', (k' = 1 ∨ k' = 3 ∨ k' = 4) → k = k' → Calls Tryz.prog 15 #[ddV (k, n, t)] w (TxPost (k, n, t) w) := by
      rintro k' h3 rfl
      by_cases hn : n = 0
      · subst hn; exact itx_form k t w hT h3
      · exact itx_bad _ w (fun w => by have := nam_num k n t h3 w; rwa [beq_false_of_ne hn] at this) (tx_kf h3 fun h => hn h.1)
    have hb : ∀ (h0 : (k == 0) = false) (h1 : (k == 1) = false) (h3 : (k == 3) = false) (h4 : (k == 4) = false), (¬ (n = 0 ∧ t = []) → txD (k, n, t) = []) → (n = 0 ∧ t = [] → Calls Tryz.prog 15 #[ddV (k, 0, [])] w (TxPost (k, 0, []) w)) → Calls Tryz.prog 15 #[ddV (k, n, t)] w (TxPost (k, n, t) w) := by
      intro h0 h1 h3 h4 hx hy
      by_cases hnt : n = 0 ∧ t = []
      · obtain ⟨rfl, rfl⟩ := hnt; exact hy ⟨rfl, rfl⟩
      · refine itx_bad _ w (fun w => ?_) (hx hnt)
        have := nam_both k n t h0 h1 h3 h4 w
        have hz : (n == 0 && t.isEmpty) = false := by
          cases hq : (n == 0 && t.isEmpty)
          · rfl
          · rw [Bool.and_eq_true] at hq
            exact absurd ⟨eq_of_beq hq.1, List.isEmpty_iff.1 hq.2⟩ hnt
        rwa [hz] at this
    rcases hk with rfl | rfl | rfl | rfl | rfl | rfl | hk
    · exact hf 1 (by simp) rfl
    · exact hb rfl rfl rfl rfl (tx_kw (by simp)) fun _ => itx_word 2 w hT (by simp)
    · exact hf 3 (by simp) rfl
    · exact hf 4 (by simp) rfl
    · exact hb rfl rfl rfl rfl (tx_kw (by simp)) fun _ => itx_word 5 w hT (by simp)
    · exact hb rfl rfl rfl rfl (tx_kw (by simp)) fun _ => itx_word 6 w hT (by simp)
    · exact hb (other_k hk).d0 (other_k hk).d1 (other_k hk).d3 (other_k hk).d4 (fun _ => tx_ko hk) fun _ => itx_other k w hT hk

end Go.Proofs.YtlnffpofbfigaaaGreatDoor
