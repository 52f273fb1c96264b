/-
  Copies of desks that came in: the laws' szDesk, toDesk; the exact law of DeskOk.
-/
import Derived.Test.YtnkebgkocpeonaaDX1
import Derived.Test.YtnkebgkocpeonaaDSame
namespace Go.Proofs.Ytnkebgkocpeonaa
open Go.RowKit

/-! A row of pairs that was handed in, and its copy. -/
def SzLd (xs : List Ld) (w : World) (i left : Value) (wr : World) : Prop := ∃ (k : Nat) (l : Int), k ≤ xs.length ∧ i = .int .i64 k ∧ left = .int .i64 l ∧ 0 ≤ l ∧ l ≤ 1048576 ∧ w.grownBy wr none
/-- What szLaidS answers with: something below 0, or a number and few pairs. -/
def SzPost (xs : List Ld) (w : World) (e : Ending) (w' : World) : Prop := ∃ v : Int, e = .returned (.int .i64 v) ∧ (v < 0 ∨ (0 ≤ v ∧ v ≤ 1048576 ∧ xs.length ≤ 1048576)) ∧ w.grownBy w' none

set_option maxRecDepth 8000 in
set_option maxHeartbeats 2000000 in
theorem szLaidS_any (left : Int) (a : Option Addr) (cap : Nat) (xs : List Ld) (w : World) (hl : 0 ≤ left ∧ left ≤ 1048576) (h : LdsAt w a xs) (hz : ∀ x ∈ xs, x.2.length ≤ maxLen) :
    Calls Try.prog 70 #[.slice a xs.length cap, .int .i64 left] w (SzPost xs w) := by
  have hm := h.1
  unfold maxLen at hm
  have hw2 : wrap64 (left - (xs.length : Int)) = left - (xs.length : Int) := by unfold wrap64; omega
  have H := Lib.hid h
  have HZ := Lib.hid hz
  clear h hz
  by_cases hle : (xs.length : Int) ≤ left
  · go_enter Try.func70, Try.ntmps70
    have hp : 0 ≤ left - (xs.length : Int) := by omega
    go_wp2
    go_loopw [1, 5] (fun l i wr => SzLd xs w i l wr) (fun _ i _ => xs.length - (intOf i).toNat)
    case atStart => exact ⟨0, left - xs.length, by omega, rfl, rfl, by omega, by omega, grownBy_refl _ _⟩
    case round =>
      obtain ⟨k, l, hk, rfl, rfl, hl0, hl1, hgr⟩ := hrel
      by_cases hlt : k < xs.length
      · have hx2 := H.out.grown hgr
        rcases hx2.2 with h0 | ⟨bx, ox, rfl, hbx, hcx⟩
        · rw [h0] at hlt; simp at hlt
        obtain ⟨c0, c1⟩ := hcx k hlt
        have hzk : (xs.getD k nilLd).2.length ≤ maxLen := HZ.out _ (getD_mem hlt)
        clear hx2 hcx hbx
        generalize xs.getD k nilLd = q at *
        have cs := fun w => szLaid_any q.1 l (bs q.2) w ⟨hl0, hl1⟩ (by rw [bs_size]; exact hzk)
        have Hgr := Lib.hid hgr
        clear hgr
        by_cases hq : ((bs q.2).size : Int) ≤ l
        · simp only [if_pos hq] at cs
          have hq0 : 0 ≤ l - ((bs q.2).size : Int) := by omega
          go_wp2_with (first | (go_at_call 32; refine (cs _).mono ?_; rintro e w' ⟨rfl, hg⟩))
          go_roundw
          case rel => exact ⟨k + 1, l - ((bs q.2).size : Int), by omega, by go_num, rfl, hq0, by omega, grownBy_trans Hgr.out hg⟩
          case measure => simp [intOf]; omega
        · simp only [if_neg hq] at cs
          go_wp2_with (first | (go_at_call 32; refine (cs _).mono ?_; rintro e w' ⟨rfl, hg⟩))
          go_ret
          exact ⟨_, rfl, .inl (by decide), grownBy_trans Hgr.out hg⟩
      · obtain rfl : k = xs.length := by omega
        have Hgr := Lib.hid hgr
        clear hgr
        go_wp2
        go_ret
        exact ⟨l, rfl, .inr ⟨hl0, hl1, by omega⟩, Hgr.out⟩
  · go_enter Try.func70, Try.ntmps70
    go_wp2
    go_ret
    exact ⟨_, rfl, .inl (by omega), grownBy_refl _ _⟩

def CpLd (g : Nat) (xs : List Ld) (w : World) (i : Value) (wr : World) : Prop :=
  ∃ (k : Nat) (vs : List Value), k ≤ xs.length ∧ i = .int .i64 k ∧ wr.ownsRow w.heap.size 24 2 (.slice (some ⟨g, 0, none⟩) xs.length xs.length) xs.length vs ∧ (∀ j, j < k → vs[j * 2]? = some (.int .i64 (xs.getD j nilLd).1) ∧ vs[j * 2 + 1]? = some (.string (bs (xs.getD j nilLd).2))) ∧ w.grownBy wr none
theorem own2_copied {g : Nat} {xs : List Ld} {w wr : World} {vs : List Value} (h : wr.ownsRow w.heap.size 24 2 (.slice (some ⟨g, 0, none⟩) xs.length xs.length) xs.length vs) (hx : ∀ j, j < xs.length → vs[j * 2]? = some (.int .i64 (xs.getD j nilLd).1) ∧ vs[j * 2 + 1]? = some (.string (bs (xs.getD j nilLd).2))) : Own2 wr w.heap.size (some ⟨g, 0, none⟩) xs.length xs := by
  have e : vs = ldC xs := by
    apply List.ext_getElem?
    intro j
    by_cases hj : j < xs.length * 2
    · have hk : j / 2 < xs.length := by omega
      have k1 := hx _ hk
      have k2 := ldC_at xs _ hk
      rcases Nat.mod_two_eq_zero_or_one j with q | q
      · rw [show j = j / 2 * 2 by omega, k1.1, k2.1]
      · rw [show j = j / 2 * 2 + 1 by omega, k1.2, k2.2]
    · rw [List.getElem?_eq_none (by rw [h.1]; omega), List.getElem?_eq_none (by rw [ldC_len]; omega)]
  unfold Own2
  rw [← e]
  exact h

set_option maxRecDepth 8000 in
set_option maxHeartbeats 2000000 in
theorem toLaidS_any (a : Option Addr) (cap : Nat) (xs : List Ld) (hn : xs.length ≤ 100000000) (w : World) (h : LdsAt w a xs) :
    Calls Try.prog 71 #[.slice a xs.length cap] w (LdsPost xs w) := by
  obtain ⟨i0, hi, hz0, hz1, hz2⟩ := info_parts infoLd
  have Hh := Lib.hid h
  clear h
  go_enter Try.func71, Try.ntmps71
  go_wp2_with (at_make; refine wpList_make_full _ rfl _ _ 29 rfl w.heap.size 24 i0 (.agg #[.int .i64 0, .string ⟨#[]⟩]) 2 Try.underlying29 hi hz0 hz1 .i64 .i64 _ _ xs.length rfl rfl rfl rfl ?b2 ?b3 (Nat.le_refl _) ?_)
  case b2 => rw [hz2]; omega
  case b3 => unfold maxLen; omega
  intro w0 hown0 hgrow0
  go_wp2
  go_loopw [4] (fun i wr => CpLd w.heap.size xs w i wr) (fun i _ => xs.length - (intOf i).toNat)
  case atStart => exact ⟨0, _, by omega, rfl, hown0, fun j hj => absurd hj (by omega), hgrow0⟩
  case round =>
    obtain ⟨k, vs, hk, rfl, hown, hxs, hgr⟩ := hrel
    by_cases hlt : k < xs.length
    · have hx2 := Hh.out.grown hgr
      rcases hx2.2 with h0 | ⟨bx, ox, rfl, hbx, hcx⟩
      · rw [h0] at hlt; simp at hlt
      obtain ⟨c0, c1⟩ := hcx k hlt
      have ct := fun w => toLaid_any (xs.getD k nilLd).1 (bs (xs.getD k nilLd).2) w
      have hxl := hown.1
      have HO := Lib.hid hown
      have HG := Lib.hid hgr
      have hnew : Hid (∀ (n : Int) (t : ByteArray), n = (xs.getD k nilLd).1 → t = bs (xs.getD k nilLd).2 → ∀ j, j < k + 1 → ((vs.set (k * 2) (.int .i64 n)).set (k * 2 + 1) (.string t))[j * 2]? = some (.int .i64 (xs.getD j nilLd).1) ∧ ((vs.set (k * 2) (.int .i64 n)).set (k * 2 + 1) (.string t))[j * 2 + 1]? = some (.string (bs (xs.getD j nilLd).2))) := by
        rintro n t rfl rfl j hj
        by_cases e : j = k
        · subst e
          refine ⟨?_, ?_⟩
          · rw [List.getElem?_set_ne (by omega), List.getElem?_set_self (by omega)]
          · rw [List.getElem?_set_self (by rw [List.length_set]; omega)]
        · refine ⟨?_, ?_⟩
          · rw [List.getElem?_set_ne (by omega), List.getElem?_set_ne (by omega)]; exact (hxs j (by omega)).1
          · rw [List.getElem?_set_ne (by omega), List.getElem?_set_ne (by omega)]; exact (hxs j (by omega)).2
      have hnw := Lib.hid (hnew.out _ _ rfl rfl)
      clear hown hgr hx2 hcx hbx hxs hnew
      generalize (xs.getD k nilLd).1 = n at *
      generalize bs (xs.getD k nilLd).2 = t at *
      go_wp2_with (first | (go_at_call 33; refine (ct _).mono ?_; rintro e w2 ⟨rfl, hg⟩; have ho2 := HO.out.kept hg (by simp [Value.ownBlock]); have hst := Lib.hid (World.ownsRow.stored ho2 (k * 2) (.int .i64 n)); have hsu := Lib.hid (World.ownsRow.stored hst.out.1 (k * 2 + 1) (.string t)); have hgg := Lib.hid (grow_own2 (grow_own2 (grownBy_trans HG.out hg) ho2 (Nat.le_refl _) hst.out.2) hst.out.1 (Nat.le_refl _) hsu.out.2); have f0 := World.ownsRow.frozenAt ho2 (k * 2); have f1 := World.ownsRow.frozenAt ho2 (k * 2 + 1); have e0 := World.ownsRow.cellAt ho2 (k * 2) (by omega); have e1 := World.ownsRow.cellAt ho2 (k * 2 + 1) (by omega); rw [List.getElem?_eq_getElem (by omega)] at e0 e1; clear ho2))
      go_roundw
      case rel => exact ⟨k + 1, _, by omega, by go_num, hsu.out.1, hnw.out, hgg.out⟩
      case measure => simp [intOf]; omega
    · obtain rfl : k = xs.length := by omega
      have hs := Lib.hid (own2_copied hown hxs)
      have Hg := Lib.hid hgr
      clear hown hxs hgr
      go_wp2
      go_ret
      exact ⟨_, _, rfl, hs.out, Hg.out⟩

end Go.Proofs.Ytnkebgkocpeonaa
