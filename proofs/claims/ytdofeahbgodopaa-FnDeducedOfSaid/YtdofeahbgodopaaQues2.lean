/-
  The function that impl.premisesTrue hands back: it asks all premises' questions. The chain has 1 to 6 steps, the slice of questions lies as it was laid.
-/
import Derived.Test.YtdofeahbgodopaaQues
namespace Go.Proofs.Ytdofeahbgodopaa
open Go.RowKit Go.Shelf

theorem blw_cell {w W : World} (hb : Below w.heap.size w W) {a : Addr} {x : Value} (h : w.cell? a = some x) : W.cell? a = some x :=
  (hb.cell (World.block_lt_of_cell? w _ h)).trans h

/-- Questions as they lie, one behind the other. -/
def QsAt (W : World) (a : Option Addr) (ts : List Tr) : Prop :=
  ts = [] ∨ ∃ b off, a = some ⟨b, off, none⟩ ∧ ∀ i t, ts[i]? = some t → ∃ Q, W.cell? ⟨b, off + i, none⟩ = some (.func (.func 64) #[] #[.pointer (some ⟨Q, 0, none⟩)]) ∧ W.cell? ⟨Q, 0, none⟩ = some (.iface (nodeT t) (nodeP t))
/-- What a function over premises has captured. -/
def PremAt (W : World) (B : Nat) (ts : List Tr) : Prop := ts.length ≤ 3 ∧ ∃ a cap, W.cell? ⟨B, 0, none⟩ = some (.slice a ts.length cap) ∧ QsAt W a ts
theorem PremAt.move {W W' : World} {B : Nat} {ts : List Tr} (h : PremAt W B ts) (hk : ∀ a x, W.cell? a = some x → W'.cell? a = some x) : PremAt W' B ts := by
  obtain ⟨h1, a, cap, h2, h3⟩ := h
  refine ⟨h1, a, cap, hk _ _ h2, ?_⟩
  rcases h3 with h3 | ⟨b, off, ha, h3⟩
  · exact .inl h3
  · refine .inr ⟨b, off, ha, fun i t ht => ?_⟩
    obtain ⟨Q, h4, h5⟩ := h3 i t ht
    exact ⟨Q, hk _ _ h4, hk _ _ h5⟩
theorem PremAt.grown {W W' : World} {B : Nat} {ts : List Tr} (h : PremAt W B ts) (hg : W.grownBy W' none) : PremAt W' B ts := h.move fun _ _ hc => cell_grown hc hg
theorem PremAt.below {W W' : World} {B : Nat} {ts : List Tr} (h : PremAt W B ts) (hb : Below W.heap.size W W') : PremAt W' B ts := h.move fun _ _ hc => blw_cell hb hc

theorem allK_no {N : Nat} {ts : List Tr} {x k : Nat} {t : Tr} (ht : ts[k]? = some t) (h : truK N t x = false) : allK N ts x = false := by
  unfold allK
  rw [List.all_eq_false]
  exact ⟨t, List.mem_of_getElem? ht, by rw [h]; simp⟩
theorem allK_yes {N : Nat} {ts : List Tr} {x : Nat} (h : ∀ j t, j < ts.length → ts[j]? = some t → truK N t x = true) : allK N ts x = true := by
  unfold allK
  rw [List.all_eq_true]
  intro t ht
  obtain ⟨j, hj⟩ := List.getElem?_of_mem ht
  exact h j t (List.getElem?_eq_some_iff.1 hj).1 hj

def AskRel (N x : Nat) (ts : List Tr) (wb : World) (i : Value) (wr : World) : Prop :=
  ∃ k : Nat, k ≤ ts.length ∧ i = .int .i64 k ∧ (∀ j t, j < k → ts[j]? = some t → truK N t x = true) ∧ wb.grownBy wr none

set_option maxRecDepth 100000 in
set_option maxHeartbeats 2000000 in
theorem prem1_any (N : Nat) (hN : 1 ≤ N ∧ N ≤ 6) (x : Nat) (ts : List Tr) (B : Nat) (w : World) (h : PremAt w B ts) :
    Calls Try.prog 62 #[.agg #[.int .i64 N, .int .i64 (tA N x), .int .i64 (tB N x), .int .i64 (tC N x)], .pointer (some ⟨B, 0, none⟩)] w fun e w' => e = .returned (.bool (allK N ts x)) ∧ w.grownBy w' none := by
  have hq := BlkAt.new w #[.int .i64 N, .int .i64 (tA N x), .int .i64 (tB N x), .int .i64 (tC N x)] 74
  have g0 : w.grownBy (w.alloc (.cells #[.int .i64 N, .int .i64 (tA N x), .int .i64 (tB N x), .int .i64 (tC N x)] 74)) none := World.grownBy_alloc _ _ none
  have h1 := h.grown g0
  obtain ⟨hlen, a, cap, hc, hQ⟩ := h1
  clear h
  go_enter Try.func62, Try.ntmps62
  go_wp2_with fail
  obtain ⟨wb, hwb⟩ : ∃ wb : World, wb = w.alloc (.cells #[.int .i64 N, .int .i64 (tA N x), .int .i64 (tB N x), .int .i64 (tC N x)] 74) := ⟨_, rfl⟩
  rw [← hwb] at hq g0 hc hQ ⊢
  clear hwb hc
  have HQ := Lib.hid hQ
  clear hQ
  go_loopw [8] (fun i wr => AskRel N x ts wb i wr) (fun i _ => ts.length - (intOf i).toNat)
  case atStart => exact ⟨0, by omega, rfl, fun j t hj => absurd hj (by omega), grownBy_refl _ _⟩
  case round =>
    obtain ⟨k, hk, rfl, hT, hgr⟩ := hrel
    have HT := Lib.hid hT
    clear hT
    by_cases hlt : k < ts.length
    · rcases HQ.out with h0 | ⟨b, off, rfl, hQs⟩
      · rw [h0] at hlt; simp at hlt
      obtain ⟨t, ht⟩ : ∃ t, ts[k]? = some t := ⟨_, List.getElem?_eq_getElem hlt⟩
      obtain ⟨Q, c1, c2⟩ := hQs k t ht
      have y0 := cell_grown (hq.cell (i := 0) rfl) hgr
      have y1 := cell_grown (hq.cell (i := 1) rfl) hgr
      have y2 := cell_grown (hq.cell (i := 2) rfl) hgr
      have y3 := cell_grown (hq.cell (i := 3) rfl) hgr
      have d1 := cell_grown c1 hgr
      have d2 := cell_grown c2 hgr
      have cq := tru1_any N hN x t Q wr d2
      have Ht := Lib.hid ht
      clear hQs c1 c2 ht d2
      cases hv : truK N t x
      · rw [hv] at cq
        have e := Lib.hid (allK_no Ht.out hv)
        clear hv
        go_wp2_with (go_at_call 64; refine cq.mono ?_; rintro e w2 ⟨rfl, gx⟩)
        go_ret
        exact ⟨by rw [e.out]; rfl, grownBy_trans g0 (grownBy_trans hgr gx)⟩
      · rw [hv] at cq
        have hn : Hid (∀ j u, j < k + 1 → ts[j]? = some u → truK N u x = true) := fun j u hj hu => by
          by_cases e : j = k
          · subst e; rw [Ht.out] at hu; cases hu; exact hv
          · exact HT.out j u (by omega) hu
        clear hv
        go_wp2_with (go_at_call 64; refine cq.mono ?_; rintro e w2 ⟨rfl, gx⟩)
        go_roundw
        case rel => exact ⟨k + 1, by omega, by go_num, hn.out, grownBy_trans hgr gx⟩
        case measure => simp [intOf]; omega
    · obtain rfl : k = ts.length := by omega
      have e := Lib.hid (allK_yes HT.out)
      go_wp2
      go_ret
      exact ⟨by rw [e.out]; rfl, grownBy_trans g0 hgr⟩

end Go.Proofs.Ytdofeahbgodopaa
