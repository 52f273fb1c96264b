/-
  The text of a deed: the model's DeedText.
-/
import Derived.Test.YtlnffpofbfigaaaGreatDoorDTb
import Derived.Test.YtlnffpofbfigaaaGreatDoorFSpec
namespace Go.Proofs.YtlnffpofbfigaaaGreatDoor
open Go.RowKit

theorem byte1 (w : World) (c : UInt8) (n : Int) (hn : n = (c.toNat : Int)) :
    (convert 22 9 (.slice (some ⟨w.heap.size, 0, none⟩) 1 1)).run Tryz.prog (w.alloc (.cells #[.int .u8 n] 5)) = .ok (.string ⟨#[c]⟩) (w.alloc (.cells #[.int .u8 n] 5)) := by
  refine run_convert_bytes_back (P := Tryz.prog) _ 22 9 5 ⟨w.heap.size, 0, none⟩ 1 [c] Tryz.underlying22 Tryz.underlying5 Tryz.underlying9 (fun j hj => ?_)
  obtain rfl : j = 0 := by simpa using hj
  rw [add_none, World.cell?_alloc_mark, hn]
  rfl

theorem num9_any (k : Int) (h : inB k 0 9 = true) (w : World) :
    Calls Tryz.prog 62 #[.int .i64 k] w fun e w' => e = .returned (.string (bs (oneD k))) ∧ w.grownBy w' none := by
  rcases ten9 h with rfl | rfl | rfl | rfl | rfl | rfl | rfl | rfl | rfl | rfl
  all_goals
    clear h
    have h48 := byte1 w 48 48 rfl
    have h49 := byte1 w 49 49 rfl
    have h50 := byte1 w 50 50 rfl
    have h51 := byte1 w 51 51 rfl
    have h52 := byte1 w 52 52 rfl
    have h53 := byte1 w 53 53 rfl
    have h54 := byte1 w 54 54 rfl
    have h55 := byte1 w 55 55 rfl
    have h56 := byte1 w 56 56 rfl
    have h57 := byte1 w 57 57 rfl
    go_enter Tryz.func62, Tryz.ntmps62
    go_wp2_with fail
    go_ret
    exact ⟨retS (by decide), World.grownBy_alloc _ _ _⟩

theorem ga2 (w : World) (A B : Obj) : w.grownBy ((w.alloc A).alloc B) none := grownBy_trans (World.grownBy_alloc w A none) (World.grownBy_alloc _ B none)
theorem ga3 (w : World) (A B C : Obj) : w.grownBy (((w.alloc A).alloc B).alloc C) none := grownBy_trans (ga2 w A B) (World.grownBy_alloc _ C none)
theorem ga4 (w : World) (A B C D : Obj) : w.grownBy ((((w.alloc A).alloc B).alloc C).alloc D) none := grownBy_trans (ga3 w A B C) (World.grownBy_alloc _ D none)
theorem gaH {w w' : World} (A : Obj) (h : (w.alloc A).grownBy w' none) : w.grownBy w' none := grownBy_trans (World.grownBy_alloc w A none) h

set_option maxHeartbeats 1600000 in
theorem stx_chain (n : Int) (w : World) (hb : inB n 0 9 = true) :
    Calls Tryz.prog 90 #[ddV (0, n, [])] w (TxPost (0, n, []) w) := by
  have ci := num9_any n hb
  have cn := in_any n 0 9
  rw [hb] at cn
  have hx : bs (txD (0, n, [])) = ⟨#[99, 104, 97, 105, 110, 32]⟩ ++ bs (oneD n) := by unfold txD; rw [if_pos ⟨rfl, rfl, hb⟩]; rfl
  unfold TxPost
  rw [hx]
  clear hx
  unfold ddV
  rw [show bs ([] : List UInt8) = ⟨#[]⟩ from rfl]
  go_enter Tryz.func90, Tryz.ntmps90
  go_wp2_with (first | (go_at_call 96; refine (cn _).mono ?_; rintro e w' ⟨rfl, rfl⟩) | (go_at_call 62; refine (ci _).mono ?_; rintro e w' ⟨rfl, hg⟩))
  go_ret
  exact ⟨rfl, gaH _ hg⟩

set_option maxHeartbeats 1600000 in
theorem stx_chain_no (n : Int) (w : World) (hb : inB n 0 9 = false) :
    Calls Tryz.prog 90 #[ddV (0, n, [])] w (TxPost (0, n, []) w) := by
  have cn := in_any n 0 9
  rw [hb] at cn
  have hx : txD (0, n, []) = [] := tx_k0 (by rw [hb]; simp)
  unfold TxPost
  rw [hx]
  clear hx
  unfold ddV
  rw [show bs ([] : List UInt8) = ⟨#[]⟩ from rfl]
  go_enter Tryz.func90, Tryz.ntmps90
  go_wp2_with (first | (go_at_call 96; refine (cn _).mono ?_; rintro e w' ⟨rfl, rfl⟩))
  go_ret
  exact ⟨rfl, World.grownBy_alloc _ _ none⟩

set_option maxHeartbeats 1600000 in
theorem stx_chain_t (n : Int) (t : List UInt8) (w : World) (ht : t ≠ []) :
    Calls Tryz.prog 90 #[ddV (0, n, t)] w (TxPost (0, n, t) w) := by
  have he := empty_bs ht
  have hx : txD (0, n, t) = [] := tx_k0 fun h => ht h.1
  unfold TxPost
  rw [hx]
  clear hx
  unfold ddV
  go_enter Tryz.func90, Tryz.ntmps90
  go_wp2
  go_ret
  exact ⟨rfl, World.grownBy_alloc _ _ none⟩

set_option maxHeartbeats 1600000 in
theorem stx_form (k : Int) (t : List UInt8) (w : World) (hk : k = 1 ∨ k = 3 ∨ k = 4) :
    Calls Tryz.prog 90 #[ddV (k, 0, t)] w (TxPost (k, 0, t) w) := by
  have cf := sform_any (bs t)
  rw [bl_bs] at cf
  cases hf : isF t
  · rw [hf] at cf
    have hx : txD (k, 0, t) = [] := tx_kf hk (by rw [hf]; simp)
    unfold TxPost
    rw [hx]
    clear hx
    unfold ddV
    rcases hk with rfl | rfl | rfl
    all_goals
      go_enter Tryz.func90, Tryz.ntmps90
      go_wp2_with (first | (go_at_call 74; refine (cf _).mono ?_; rintro e w2 ⟨rfl, rfl⟩))
      go_ret
      exact ⟨rfl, World.grownBy_alloc _ _ none⟩
  · rw [hf] at cf
    have zt := bs_size t
    have zl := isF_len hf
    have hx : bs (txD (k, 0, t)) = bs (wordsL.getD k.toNat [] ++ [32]) ++ bs t := by
      rw [bs_app]
      rcases hk with rfl | rfl | rfl
      · rw [tx_told (Told.say t hf)]; rfl
      · rw [tx_told (Told.times t hf)]; rfl
      · rw [tx_told (Told.ifs t hf)]; rfl
    unfold TxPost
    rw [hx]
    clear hx
    unfold ddV
    rcases hk with rfl | rfl | rfl
    all_goals
      go_enter Tryz.func90, Tryz.ntmps90
      go_wp2_with (first | (go_at_call 74; refine (cf _).mono ?_; rintro e w2 ⟨rfl, rfl⟩))
      go_ret
      exact ⟨rfl, World.grownBy_alloc _ _ none⟩

set_option maxHeartbeats 1600000 in
theorem stx_form_n (k n : Int) (t : List UInt8) (w : World) (hk : k = 1 ∨ k = 3 ∨ k = 4) (hn : n ≠ 0) :
    Calls Tryz.prog 90 #[ddV (k, n, t)] w (TxPost (k, n, t) w) := by
  have h0 : (n == 0) = false := beq_false_of_ne hn
  have hx : txD (k, n, t) = [] := tx_kf hk fun h => hn h.1
  unfold TxPost
  rw [hx]
  clear hx
  unfold ddV
  rcases hk with rfl | rfl | rfl
  all_goals
    go_enter Tryz.func90, Tryz.ntmps90
    go_wp2
    go_ret
    exact ⟨rfl, World.grownBy_alloc _ _ none⟩

set_option maxHeartbeats 1600000 in
theorem stx_word (k : Int) (w : World) (hk : k = 2 ∨ k = 5 ∨ k = 6) :
    Calls Tryz.prog 90 #[ddV (k, 0, [])] w (TxPost (k, 0, []) w) := by
  have hx : bs (txD (k, 0, [])) = bs (wordsL.getD k.toNat []) := by rcases hk with rfl | rfl | rfl <;> rfl
  unfold TxPost
  rw [hx]
  clear hx
  unfold ddV
  rw [show bs ([] : List UInt8) = ⟨#[]⟩ from rfl]
  rcases hk with rfl | rfl | rfl
  all_goals
    go_enter Tryz.func90, Tryz.ntmps90
    go_wp2
    go_ret
    first | exact ⟨rfl, World.grownBy_alloc _ _ none⟩

set_option maxHeartbeats 1600000 in
theorem stx_word_n (k n : Int) (t : List UInt8) (w : World) (hk : k = 2 ∨ k = 5 ∨ k = 6) (hn : n ≠ 0) :
    Calls Tryz.prog 90 #[ddV (k, n, t)] w (TxPost (k, n, t) w) := by
  have h0 : (n == 0) = false := beq_false_of_ne hn
  have hx : txD (k, n, t) = [] := tx_kw hk fun h => hn h.1
  unfold TxPost
  rw [hx]
  clear hx
  unfold ddV
  rcases hk with rfl | rfl | rfl
  all_goals
    go_enter Tryz.func90, Tryz.ntmps90
    go_wp2
    go_ret
    exact ⟨rfl, World.grownBy_alloc _ _ none⟩

set_option maxHeartbeats 1600000 in
theorem stx_word_t (k : Int) (t : List UInt8) (w : World) (hk : k = 2 ∨ k = 5 ∨ k = 6) (ht : t ≠ []) :
    Calls Tryz.prog 90 #[ddV (k, 0, t)] w (TxPost (k, 0, t) w) := by
  have he := empty_bs ht
  have hx : txD (k, 0, t) = [] := tx_kw hk fun h => ht h.2
  unfold TxPost
  rw [hx]
  clear hx
  unfold ddV
  rcases hk with rfl | rfl | rfl
  all_goals
    go_enter Tryz.func90, Tryz.ntmps90
    go_wp2
    go_ret
    exact ⟨rfl, World.grownBy_alloc _ _ none⟩

set_option maxHeartbeats 1600000 in
theorem stx_other (k n : Int) (t : List UInt8) (w : World) (hk : k ≠ 0 ∧ k ≠ 1 ∧ k ≠ 2 ∧ k ≠ 3 ∧ k ≠ 4 ∧ k ≠ 5 ∧ k ≠ 6) :
    Calls Tryz.prog 90 #[ddV (k, n, t)] w (TxPost (k, n, t) w) := by
  have hx : txD (k, n, t) = [] := tx_ko hk
  obtain ⟨d0, d1, d2, d3, d4, d5, d6⟩ := other_k hk
  unfold TxPost
  rw [hx]
  clear hx hk
  unfold ddV
  go_enter Tryz.func90, Tryz.ntmps90
  go_wp2
  go_ret
  exact ⟨rfl, World.grownBy_alloc _ _ none⟩

theorem stx_any (a : Dd) (w : World) : Calls Tryz.prog 90 #[ddV a] w (TxPost a w) := by
  obtain ⟨k, n, t⟩ := a
  have hfm : (k = 1 ∨ k = 3 ∨ k = 4) → Calls Tryz.prog 90 #[ddV (k, n, t)] w (TxPost (k, n, t) w) := by
    intro h3
    by_cases hn : n = 0
    · subst hn; exact stx_form k t w h3
    · exact stx_form_n k n t w h3 hn
  have hwd : (k = 2 ∨ k = 5 ∨ k = 6) → Calls Tryz.prog 90 #[ddV (k, n, t)] w (TxPost (k, n, t) w) := by
    intro h3
    by_cases hn : n = 0
    · subst hn
      by_cases ht : t = []
      · subst ht; exact stx_word k w h3
      · exact stx_word_t k t w h3 ht
    · exact stx_word_n k n t w h3 hn
  rcases kind_ways k with rfl | hk
  · by_cases ht : t = []
    · subst ht
      cases hb : inB n 0 9
      · exact stx_chain_no n w hb
      · exact stx_chain n w hb
    · exact stx_chain_t n t w ht
  · rcases hk with h | h | h | h | h | h | hk
    · exact hfm (.inl h)
    · exact hwd (.inl h)
    · exact hfm (.inr (.inl h))
    · exact hfm (.inr (.inr h))
    · exact hwd (.inr (.inl h))
    · exact hwd (.inr (.inr h))
    · exact stx_other k n t w hk

end Go.Proofs.YtlnffpofbfigaaaGreatDoor
