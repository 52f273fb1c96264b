/-
  Joined out of the texts Ques, Ques2, Ques3, Withs, CntI, FolI, SPrem, SPrem2, SPrem3: what each holds is told at its head.
-/
import Derived.Test.YtlnffpofbfigaaaGreatDoorM323050c2
import Derived.Test.YtlnffpofbfigaaaGreatDoorN891658c6
import Derived.Test.YtlnffpofbfigaaaGreatDoorMa5d7fcb1
import Derived.Deep.AppendLies
import Derived.Deep.RegionLaw
import Derived.RangeFuncBox
import Derived.Test.YtlnffpofbfigaaaGreatDoorN2be6e55a
import Derived.Test.YtlnffpofbfigaaaGreatDoorM85c18669

/-
  Questions: impl.truthOf and what it hands back; impl.premisesTrue and what it hands back: the premises' questions in a slice that a function holds. No condition.
-/
namespace Go.Proofs.YtlnffpofbfigaaaGreatDoor
open Go.RowKit Go.Shelf

theorem truth_any (t : Tr) (w : World) :
    Calls Tryz.prog 164 #[.iface (nodeT t) (nodeP t)] w fun e w' => e = .returned (.func (.func 196) #[] #[.pointer (some ⟨w.heap.size, 0, none⟩)]) ∧ w' = w.alloc (.cells #[.iface (nodeT t) (nodeP t)] 131) := by
  go_enter Tryz.func164, Tryz.ntmps164
  go_wp2_with fail
  go_ret
  exact ⟨rfl, rfl⟩

set_option maxRecDepth 100000 in
set_option maxHeartbeats 2000000 in
theorem tru1_any (N : Nat) (hN : 1 ≤ N ∧ N ≤ 6) (x : Nat) (t : Tr) (B : Nat) (w : World) (hB : w.cell? ⟨B, 0, none⟩ = some (.iface (nodeT t) (nodeP t))) :
    Calls Tryz.prog 196 #[.agg #[.int .i64 N, .int .i64 (tA N x), .int .i64 (tB N x), .int .i64 (tC N x)], .pointer (some ⟨B, 0, none⟩)] w fun e w' => e = .returned (.bool (truK N t x)) ∧ w.grownBy w' none := by
  have cv : ∀ w : World, Calls Tryz.prog 160 #[.agg #[.int .i64 N, .int .i64 (tA N x), .int .i64 (tB N x), .int .i64 (tC N x)], .iface (nodeT t) (nodeP t)] w fun e w' => e = .returned (.int .i64 (atK N t x)) ∧ w.grownBy w' none := vt_all (tri_ok hN x) t
  have hq := BlkAt.new w #[.int .i64 N, .int .i64 (tA N x), .int .i64 (tB N x), .int .i64 (tC N x)] 164
  have g0 : w.grownBy (w.alloc (.cells #[.int .i64 N, .int .i64 (tA N x), .int .i64 (tB N x), .int .i64 (tC N x)] 164)) none := World.grownBy_alloc _ _ none
  have t0 := cell_grown hB g0
  go_enter Tryz.func196, Tryz.ntmps196
  go_wp2_with fail
  obtain ⟨wb, hwb⟩ : ∃ wb : World, wb = w.alloc (.cells #[.int .i64 N, .int .i64 (tA N x), .int .i64 (tB N x), .int .i64 (tC N x)] 164) := ⟨_, rfl⟩
  rw [← hwb] at hq g0 t0 ⊢
  have hb : wb.drew.cell? ⟨w.heap.size, 0, none⟩ = some (.int .i64 N) ∧ wb.drew.cell? ⟨w.heap.size, 1, none⟩ = some (.int .i64 (tA N x)) ∧ wb.drew.cell? ⟨w.heap.size, 2, none⟩ = some (.int .i64 (tB N x)) ∧ wb.drew.cell? ⟨w.heap.size, 3, none⟩ = some (.int .i64 (tC N x)) ∧ wb.drew.cell? ⟨B, 0, none⟩ = some (.iface (nodeT t) (nodeP t)) ∧ w.grownBy wb.drew none :=
    ⟨hq.cell rfl, hq.cell rfl, hq.cell rfl, hq.cell rfl, t0, grownBy_drew g0⟩
  clear hwb hq g0 t0 hB
  go_region_held3 (fun w' => w'.cell? ⟨w.heap.size, 0, none⟩ = some (.int .i64 N) ∧ w'.cell? ⟨w.heap.size, 1, none⟩ = some (.int .i64 (tA N x)) ∧ w'.cell? ⟨w.heap.size, 2, none⟩ = some (.int .i64 (tB N x)) ∧ w'.cell? ⟨w.heap.size, 3, none⟩ = some (.int .i64 (tC N x)) ∧ w'.cell? ⟨B, 0, none⟩ = some (.iface (nodeT t) (nodeP t)) ∧ w.grownBy w' none)
    (first | exact hb | exact held5 (by assumption) gx | assumption)
    (first | (go_at_call 160; refine (cv _).mono ?_; rintro e w2 ⟨rfl, gx⟩))
  all_goals
    go_wp2_with fail
    go_ret
    exact ⟨rfl, grownBy_trans hb.2.2.2.2.2 gx⟩

end Go.Proofs.YtlnffpofbfigaaaGreatDoor

/-
  The function that impl.premisesTrue hands back: it asks all premises' questions. The chain has 1 to 6 steps, the slice of questions lies as it was laid.
-/
namespace Go.Proofs.YtlnffpofbfigaaaGreatDoor
open Go.RowKit Go.Shelf

theorem blw_cell {w W : World} (hb : Below w.heap.size w W) {a : Addr} {x : Value} (h : w.cell? a = some x) : W.cell? a = some x :=
  (hb.cell (World.block_lt_of_cell? w _ h)).trans h

/-- Questions as they lie, one behind the other. -/
def QsAt (W : World) (a : Option Addr) (ts : List Tr) : Prop :=
  ts = [] ∨ ∃ b off, a = some ⟨b, off, none⟩ ∧ ∀ i t, ts[i]? = some t → ∃ Q, W.cell? ⟨b, off + i, none⟩ = some (.func (.func 196) #[] #[.pointer (some ⟨Q, 0, none⟩)]) ∧ W.cell? ⟨Q, 0, none⟩ = some (.iface (nodeT t) (nodeP t))
/-- What a function over premises has captured. -/
def PremAt (W : World) (B : Nat) (ts : List Tr) : Prop := ts.length ≤ 3 ∧ ∃ a cap, W.cell? ⟨B, 0, none⟩ = some (.slice a ts.length cap) ∧ QsAt W a ts
theorem PremAt.move {W W' : World} {B : Nat} {ts : List Tr} (h : PremAt W B ts) (hk : ∀ a x, W.cell? a = some x → W'.cell? a = some x) : PremAt W' B ts := by
  obtain ⟨h1, a, cap, h2, h3⟩ := h
  refine ⟨h1, a, cap, hk _ _ h2, ?_⟩
  rcases h3 with h3 | ⟨b, off, ha, h3⟩
  · exact .inl h3
  · refine .inr ⟨b, off, ha, fun i t ht => ?_⟩
    obtain ⟨Q, h4, h5⟩ := h3 i t ht
    exact ⟨Q, hk _ _ h4, hk _ _ h5⟩
theorem PremAt.grown {W W' : World} {B : Nat} {ts : List Tr} (h : PremAt W B ts) (hg : W.grownBy W' none) : PremAt W' B ts := h.move fun _ _ hc => cell_grown hc hg
theorem PremAt.below {W W' : World} {B : Nat} {ts : List Tr} (h : PremAt W B ts) (hb : Below W.heap.size W W') : PremAt W' B ts := h.move fun _ _ hc => blw_cell hb hc

theorem allK_no {N : Nat} {ts : List Tr} {x k : Nat} {t : Tr} (ht : ts[k]? = some t) (h : truK N t x = false) : allK N ts x = false := by
  unfold allK
  rw [List.all_eq_false]
  exact ⟨t, List.mem_of_getElem? ht, by rw [h]; simp⟩
theorem allK_yes {N : Nat} {ts : List Tr} {x : Nat} (h : ∀ j t, j < ts.length → ts[j]? = some t → truK N t x = true) : allK N ts x = true := by
  unfold allK
  rw [List.all_eq_true]
  intro t ht
  obtain ⟨j, hj⟩ := List.getElem?_of_mem ht
  exact h j t (List.getElem?_eq_some_iff.1 hj).1 hj

def AskRel (N x : Nat) (ts : List Tr) (wb : World) (i : Value) (wr : World) : Prop :=
  ∃ k : Nat, k ≤ ts.length ∧ i = .int .i64 k ∧ (∀ j t, j < k → ts[j]? = some t → truK N t x = true) ∧ wb.grownBy wr none

set_option maxRecDepth 100000 in
set_option maxHeartbeats 2000000 in
theorem prem1_any (N : Nat) (hN : 1 ≤ N ∧ N ≤ 6) (x : Nat) (ts : List Tr) (B : Nat) (w : World) (h : PremAt w B ts) :
    Calls Tryz.prog 195 #[.agg #[.int .i64 N, .int .i64 (tA N x), .int .i64 (tB N x), .int .i64 (tC N x)], .pointer (some ⟨B, 0, none⟩)] w fun e w' => e = .returned (.bool (allK N ts x)) ∧ w.grownBy w' none := by
  have hq := BlkAt.new w #[.int .i64 N, .int .i64 (tA N x), .int .i64 (tB N x), .int .i64 (tC N x)] 164
  have g0 : w.grownBy (w.alloc (.cells #[.int .i64 N, .int .i64 (tA N x), .int .i64 (tB N x), .int .i64 (tC N x)] 164)) none := World.grownBy_alloc _ _ none
  have h1 := h.grown g0
  obtain ⟨hlen, a, cap, hc, hQ⟩ := h1
  clear h
  go_enter Tryz.func195, Tryz.ntmps195
  go_wp2_with fail
  obtain ⟨wb, hwb⟩ : ∃ wb : World, wb = w.alloc (.cells #[.int .i64 N, .int .i64 (tA N x), .int .i64 (tB N x), .int .i64 (tC N x)] 164) := ⟨_, rfl⟩
  rw [← hwb] at hq g0 hc hQ ⊢
  clear hwb hc
  have HQ := Lib.hid hQ
  clear hQ
  go_loopw [8] (fun i wr => AskRel N x ts wb i wr) (fun i _ => ts.length - (intOf i).toNat)
  case atStart => exact ⟨0, by omega, rfl, fun j t hj => absurd hj (by omega), grownBy_refl _ _⟩
  case round =>
    obtain ⟨k, hk, rfl, hT, hgr⟩ := hrel
    have HT := Lib.hid hT
    clear hT
    by_cases hlt : k < ts.length
    · rcases HQ.out with h0 | ⟨b, off, rfl, hQs⟩
      · rw [h0] at hlt; simp at hlt
      obtain ⟨t, ht⟩ : ∃ t, ts[k]? = some t := ⟨_, List.getElem?_eq_getElem hlt⟩
      obtain ⟨Q, c1, c2⟩ := hQs k t ht
      have y0 := cell_grown (hq.cell (i := 0) rfl) hgr
      have y1 := cell_grown (hq.cell (i := 1) rfl) hgr
      have y2 := cell_grown (hq.cell (i := 2) rfl) hgr
      have y3 := cell_grown (hq.cell (i := 3) rfl) hgr
      have d1 := cell_grown c1 hgr
      have d2 := cell_grown c2 hgr
      have cq := tru1_any N hN x t Q wr d2
      have Ht := Lib.hid ht
      clear hQs c1 c2 ht d2
      cases hv : truK N t x
      · rw [hv] at cq
        have e := Lib.hid (allK_no Ht.out hv)
        clear hv
        go_wp2_with (go_at_call 196; refine cq.mono ?_; rintro e w2 ⟨rfl, gx⟩)
        go_ret
        exact ⟨by rw [e.out]; rfl, grownBy_trans g0 (grownBy_trans hgr gx)⟩
      · rw [hv] at cq
        have hn : Hid (∀ j u, j < k + 1 → ts[j]? = some u → truK N u x = true) := fun j u hj hu => by
          by_cases e : j = k
          · subst e; rw [Ht.out] at hu; cases hu; exact hv
          · exact HT.out j u (by omega) hu
        clear hv
        go_wp2_with (go_at_call 196; refine cq.mono ?_; rintro e w2 ⟨rfl, gx⟩)
        go_roundw
        case rel => exact ⟨k + 1, by omega, by go_num, hn.out, grownBy_trans hgr gx⟩
        case measure => simp [intOf]; omega
    · obtain rfl : k = ts.length := by omega
      have e := Lib.hid (allK_yes HT.out)
      go_wp2
      go_ret
      exact ⟨by rw [e.out]; rfl, grownBy_trans g0 hgr⟩

end Go.Proofs.YtlnffpofbfigaaaGreatDoor

/-
  impl.premisesTrue, impl.PremisesOk: the premises' questions are put behind one another. No condition.
-/
namespace Go.Proofs.YtlnffpofbfigaaaGreatDoor
open Go.RowKit Go.Shelf

theorem infoQ : (Tryz.prog.info? 167).map (fun i => (i.zero, i.size, i.bytes)) = some (some .nilFunc, 1, 8) := by kernel_rfl

theorem own_alloc {w : World} {base : Nat} {e : TypeId} {v : Value} {n : Nat} {xs : List Value} (h : w.ownsRow base e 1 v n xs) (o : Obj) : (w.alloc o).ownsRow base e 1 v n xs := World.ownsRow.alloc h o

theorem truth_box (t : Tr) (w : World) :
    Calls Tryz.prog 164 #[.iface (nodeT t) (nodeP t)] w fun e w' => e = .returned (.func (.func 196) #[] #[.pointer (some ⟨w.heap.size, 0, none⟩)]) ∧ Boxed w' w.heap.size 131 (.iface (nodeT t) (nodeP t)) ∧ w.grownBy w' none ∧ w'.heap.size = w.heap.size + 1 := by
  refine (truth_any t w).mono ?_
  rintro e w' ⟨rfl, rfl⟩
  exact ⟨rfl, Boxed.new _ _ _, World.grownBy_alloc _ _ none, by simp⟩
theorem keepB {V W : World} {a : Addr} {x : Value} (h : V.cell? a = some x ∧ V.frozen? a = false) (hg : V.grownBy W none) : W.cell? a = some x ∧ W.frozen? a = false :=
  ⟨cell_grown h.1 hg, (World.frozen?_of_block (hg.block a.block (World.block_lt_of_cell? V _ h.1) (by simp))).trans h.2⟩
theorem keepC {V W : World} {a : Addr} {x : Value} {row : Option Nat} (h : V.cell? a = some x ∧ V.frozen? a = false) (hg : V.grownBy W row) (hr : some a.block ≠ row) : W.cell? a = some x ∧ W.frozen? a = false :=
  ⟨(World.cell?_of_block (hg.block a.block (World.block_lt_of_cell? V _ h.1) hr)).trans h.1, (World.frozen?_of_block (hg.block a.block (World.block_lt_of_cell? V _ h.1) hr)).trans h.2⟩

/-- The first k questions, as they lie while they are put together. -/
def QsTo (ss : List ByteArray) (k : Nat) (xs : List Value) (wr : World) : Prop :=
  ∀ j, j < k → ∃ t Q, fOf (bl (ss.getD j nilS)) = some t ∧ xs[j]? = some (.func (.func 196) #[] #[.pointer (some ⟨Q, 0, none⟩)]) ∧ Boxed wr Q 131 (.iface (nodeT t) (nodeP t))
def PrRel (ss : List ByteArray) (w : World) (i : Value) (wr : World) : Prop :=
  ∃ (k : Nat) (xs : List Value) (v : Value), k ≤ ss.length ∧ i = .int .i64 k ∧ Boxed wr w.heap.size 209 v ∧ wr.ownsRow w.heap.size 167 1 v k xs ∧ QsTo ss k xs wr ∧ w.grownBy wr none

theorem QsTo.grown {ss : List ByteArray} {k : Nat} {xs : List Value} {w w' : World} (h : QsTo ss k xs w) (hg : w.grownBy w' none) : QsTo ss k xs w' := fun j hj => by
  obtain ⟨t, Q, h1, h2, h3⟩ := h j hj
  exact ⟨t, Q, h1, h2, h3.kept hg (by simp)⟩

/-- One question more is put to them. -/
theorem pr_next {ss : List ByteArray} {w w2 V w3 : World} {k : Nat} {xs : List Value} {v : Value} {gg cp : Nat} {t : Tr} {o : Obj}
    (hg2 : w.grownBy w2 none) (hbox : Boxed w2 w.heap.size 209 v) (hq : QsTo ss k xs w2) (ho : fOf (bl (ss.getD k nilS)) = some t)
    (hown : w2.ownsRow w.heap.size 167 1 v k xs) (gy : w2.grownBy V none) (hbV : Boxed V w2.heap.size 131 (.iface (nodeT t) (nodeP t)))
    (hgrow : (V.alloc o).grownBy w3 v.ownBlock)
    (hown3 : w3.ownsRow w.heap.size 167 1 (.slice (some ⟨gg, 0, none⟩) (k + 1) cp) (k + 1) (xs ++ [.func (.func 196) #[] #[.pointer (some ⟨w2.heap.size, 0, none⟩)]])) :
    Boxed (w3.setCell ⟨w.heap.size, 0, none⟩ (.slice (some ⟨gg, 0, none⟩) (k + 1) cp)) w.heap.size 209 (.slice (some ⟨gg, 0, none⟩) (k + 1) cp) ∧
    (w3.setCell ⟨w.heap.size, 0, none⟩ (.slice (some ⟨gg, 0, none⟩) (k + 1) cp)).ownsRow w.heap.size 167 1 (.slice (some ⟨gg, 0, none⟩) (k + 1) cp) (k + 1) (xs ++ [.func (.func 196) #[] #[.pointer (some ⟨w2.heap.size, 0, none⟩)]]) ∧
    QsTo ss (k + 1) (xs ++ [.func (.func 196) #[] #[.pointer (some ⟨w2.heap.size, 0, none⟩)]]) (w3.setCell ⟨w.heap.size, 0, none⟩ (.slice (some ⟨gg, 0, none⟩) (k + 1) cp)) ∧
    w.grownBy (w3.setCell ⟨w.heap.size, 0, none⟩ (.slice (some ⟨gg, 0, none⟩) (k + 1) cp)) none := by
  have gV : w2.grownBy (V.alloc o) none := grownBy_trans gy (World.grownBy_alloc V o none)
  have oV : (V.alloc o).ownsRow w.heap.size 167 1 v k xs := World.ownsRow.kept hown gV (by cases v.ownBlock <;> simp)
  have b1 : Boxed (V.alloc o) w.heap.size 209 v := hbox.kept gV (by simp)
  have b3 : Boxed w3 w.heap.size 209 v := b1.kept hgrow (b1.not_row (by decide) oV)
  have old : ∀ {Q : Nat} {u : Value}, Boxed (V.alloc o) Q 131 u → Boxed (w3.setCell ⟨w.heap.size, 0, none⟩ (.slice (some ⟨gg, 0, none⟩) (k + 1) cp)) Q 131 u := fun {Q u} hQ => by
    have h3 := hQ.kept hgrow (hQ.not_row (by decide) oV)
    refine h3.other (fun e => ?_) _
    subst e
    have e2 := (show w3.heap[w.heap.size]? = _ from h3).symm.trans b3
    simp at e2
  have hxl := hown.1
  refine ⟨b3.set _, World.ownsRow.kept hown3 (grownBy_setCell' w3 _ _) (.inr fun e => ?_), fun j hj => ?_, grownBy_own (grownBy_row (grownBy_trans hg2 gV) oV (Nat.le_refl _) hgrow) (grownBy_setCell' w3 _ _)⟩
  · exact b3.not_row (by decide) hown3 e.symm
  · by_cases e : j = k
    · subst e
      refine ⟨t, w2.heap.size, ho, ?_, old (hbV.alloc o)⟩
      rw [List.getElem?_append_right (by omega), show j - xs.length = 0 by omega]
      rfl
    · obtain ⟨u, Q, h1, h2, h3⟩ := hq j (by omega)
      exact ⟨u, Q, h1, by rw [List.getElem?_append_left (by omega)]; exact h2, old (h3.kept gV (by simp))⟩

/-- What impl.premisesTrue leaves. -/
def PremPost (ss : List ByteArray) (w : World) (e : Ending) (w' : World) : Prop :=
  w.grownBy w' none ∧ ((prOf (ss.map bl) = none ∧ e = .returned (.tuple #[.nilFunc, .bool false])) ∨
    (∃ ts B, prOf (ss.map bl) = some ts ∧ PremAt w' B ts ∧ e = .returned (.tuple #[.func (.func 195) #[] #[.pointer (some ⟨B, 0, none⟩)], .bool true])))

theorem prOf_at_none {ss : List ByteArray} {k : Nat} (hk : k < ss.length) (h : fOf (bl (ss.getD k nilS)) = none) : prOf (ss.map bl) = none := by
  cases e : prOf (ss.map bl) with
  | none => rfl
  | some ts =>
    obtain ⟨t, _, ht⟩ := fsOf_at (prOf_of e).2 k (by simpa using hk)
    rw [show (ss.map bl).getD k [] = bl (ss.getD k nilS) by simp [List.getD_eq_getElem?_getD, hk]] at ht
    rw [h] at ht; cases ht
theorem prOf_at_some {ss : List ByteArray} (hs : ss.length ≤ 3) (h : ∀ k, k < ss.length → ∃ t, fOf (bl (ss.getD k nilS)) = some t) : ∃ ts, prOf (ss.map bl) = some ts := by
  obtain ⟨ts, ht⟩ := fsOf_of (ls := ss.map bl) fun i hi => by
    obtain ⟨t, ht⟩ := h i (by simpa using hi)
    rw [show (ss.map bl).getD i [] = bl (ss.getD i nilS) by simp at hi; simp [List.getD_eq_getElem?_getD, hi]]
    exact isF_t ht
  exact ⟨ts, by rw [prOf_s (by simpa using hs)]; exact ht⟩

/-- All questions are there: what the function over premises captures. -/
theorem prem_made {ss : List ByteArray} {xs : List Value} {v : Value} {B base : Nat} {wr : World} (hs : ss.length ≤ 3) (hb : Boxed wr B 209 v)
    (hown : wr.ownsRow base 167 1 v ss.length xs) (hq : QsTo ss ss.length xs wr) : ∃ ts, prOf (ss.map bl) = some ts ∧ PremAt wr B ts := by
  obtain ⟨ts, ht⟩ := prOf_at_some hs fun k hk => by obtain ⟨t, _, h, _⟩ := hq k hk; exact ⟨t, h⟩
  have hl : ts.length = ss.length := by have := fsOf_len (prOf_of ht).2; simpa using this
  refine ⟨ts, ht, by omega, ?_⟩
  rcases hown.2 with ⟨rfl, h0⟩ | ⟨g, cap, cur, rfl, _⟩
  · exact ⟨none, 0, by rw [hl, h0]; exact hb.cell, .inl (List.length_eq_zero_iff.1 (by omega))⟩
  · refine ⟨some ⟨g, 0, none⟩, cap, by rw [hl]; exact hb.cell, .inr ⟨g, 0, rfl, fun i t hi => ?_⟩⟩
    have hlt : i < ss.length := by have := (List.getElem?_eq_some_iff.1 hi).1; omega
    obtain ⟨u, Q, h1, h2, h3⟩ := hq i hlt
    obtain ⟨u', h4, h5⟩ := fsOf_at (prOf_of ht).2 i (by simpa using hlt)
    rw [show (ss.map bl).getD i [] = bl (ss.getD i nilS) by simp [List.getD_eq_getElem?_getD, hlt]] at h5
    rw [h1] at h5
    cases h5
    rw [hi] at h4
    cases h4
    refine ⟨Q, ?_, h3.cell⟩
    rw [Nat.zero_add, World.ownsRow.cellAt hown i (by omega), h2]

theorem prem_long (a : Option Addr) (cap : Nat) (ss : List ByteArray) (hl : 3 < ss.length) (hm : ss.length ≤ maxLen) (w : World) :
    Calls Tryz.prog 162 #[.slice a ss.length cap] w (PremPost ss w) := by
  have e : Hid (prOf (ss.map bl) = none) := prOf_l (by simp; omega)
  unfold maxLen at hm
  go_enter Tryz.func162, Tryz.ntmps162
  go_wp2_with fail
  go_ret2
  exact ⟨grownBy_refl _ _, .inl ⟨e.out, rfl⟩⟩

set_option maxRecDepth 100000 in
set_option maxHeartbeats 4000000 in
theorem prem_short (a : Option Addr) (cap : Nat) (ss : List ByteArray) (hl : ss.length ≤ 3) (w : World) (h : StrsAt w a ss) :
    Calls Tryz.prog 162 #[.slice a ss.length cap] w (PremPost ss w) := by
  obtain ⟨i0, hi, hz0, hz1, hz2⟩ := info_parts infoQ
  have Hh := Lib.hid h
  clear h
  go_enter Tryz.func162, Tryz.ntmps162
  go_wp2_with fail
  go_loopw [15] (fun i wr => PrRel ss w i wr) (fun i _ => ss.length - (intOf i).toNat)
  case atStart => exact ⟨0, [], .slice none 0 0, by omega, rfl, Boxed.new w _ _, World.ownsRow_nil _ _ _ _, fun j hj => absurd hj (by omega), World.grownBy_alloc _ _ none⟩
  case round =>
    obtain ⟨k, xs, v, hk, rfl, hbox, hown, hq, hgr⟩ := hrel
    have Hq := Lib.hid hq
    clear hq
    by_cases hlt : k < ss.length
    · have hx2 := Hh.out.grown hgr
      rcases hx2.2 with h0 | ⟨bx, ox, rfl, hbx, hcx⟩
      · rw [h0] at hlt; simp at hlt
      have hc1 := hcx k hlt
      clear hx2 hcx hbx
      cases ho : fOf (bl (ss.getD k nilS)) with
      | none =>
        have e := Lib.hid (prOf_at_none hlt ho)
        have ct := tree_no (ss.getD k nilS) wr ho
        clear ho hbox hown
        generalize ss.getD k nilS = s at *
        go_wp2_with (go_at_call 105; refine ct.mono ?_; rintro e w2 ⟨u, hu, rfl, gx⟩)
        go_ret2
        exact ⟨grownBy_trans hgr gx, .inl ⟨e.out, rfl⟩⟩
      | some t =>
        have ct := tree_yes (ss.getD k nilS) wr ho
        have Ho := Lib.hid ho
        have hks := Lib.hid (rfl : ss.getD k nilS = ss.getD k nilS)
        clear ho hks
        obtain ⟨s, hs⟩ : ∃ s, ss.getD k nilS = s := ⟨_, rfl⟩
        rw [hs] at hc1 ct
        have Hs := Lib.hid hs
        clear hs
        go_wp2_with (go_at_call 105; refine ct.mono ?_; rintro e w2 ⟨rfl, gx⟩)
        clear ct hc1
        have hbox2 : Boxed w2 w.heap.size 209 v := hbox.kept gx (by simp)
        have hown2 := hown.kept gx (by cases v.ownBlock <;> simp)
        have hg2 := grownBy_trans hgr gx
        have hn : k + 1 ≤ maxLen := by unfold maxLen; omega
        have hby : (k + 1) * 8 ≤ 140737488355328 := by omega
        have lbx := hbox2.lt
        have nr : v.ownBlock ≠ some w.heap.size := fun e => hbox2.not_row (by decide) hown2 e.symm
        have cT : ∀ w : World, Calls Tryz.prog 164 #[.iface (nodeT t) (nodeP t)] w fun e w' => e = .returned (.func (.func 196) #[] #[.pointer (some ⟨w.heap.size, 0, none⟩)]) ∧ Boxed w' w.heap.size 131 (.iface (nodeT t) (nodeP t)) ∧ w.grownBy w' none ∧ w'.heap.size = w.heap.size + 1 := truth_box t
        have kp : ∀ V : World, w2.drew.grownBy V none → V.ownsRow w.heap.size 167 1 v k xs := fun V g => World.ownsRow.kept hown2.drew g (by cases v.ownBlock <;> simp)
        replace nr : some w.heap.size ≠ v.ownBlock := fun e => nr e.symm
        have hb : w2.drew.cell? ⟨w.heap.size, 0, none⟩ = some v ∧ w2.drew.frozen? ⟨w.heap.size, 0, none⟩ = false := ⟨hbox2.cell, hbox2.frozen⟩
        go_region_law (first | (go_simp; refine (cT _).mono ?_; rintro e V ⟨rfl, hbV, gy, sV⟩; have hcV := keepB hb gy; obtain ⟨hcV1, hcV2⟩ := hcV) | (refine step_append_lies _ (by rfl) _ _ _ (by rfl) w.heap.size 167 i0 _ 1 8 Tryz.underlying209 hi hz0 hz1 hz2 rfl (by omega) v k xs (by rfl) (by first | exact own_alloc (kp V gy).drew _ | exact (own_alloc (kp V gy) _).drew | exact own_alloc (kp V gy) _) ⟨w2.heap.size + 1, 0, none⟩ 1 1 [.func (.func 196) #[] #[.pointer (some ⟨w2.heap.size, 0, none⟩)]] (by rfl) (by rfl) (World.news_of_block (cs := #[.func (.func 196) #[] #[.pointer (some ⟨w2.heap.size, 0, none⟩)]]) (t := 167) (fr := (0, 0)) (by have hha := heap_alloc_new V (Obj.cells #[.func (.func 196) #[] #[.pointer (some ⟨w2.heap.size, 0, none⟩)]] 167); rw [sV] at hha; exact hha)) (by simp [Value.oneCell']) (by omega) hn hby (by have hgs := hg2.size; have hgt : w2.heap.size ≤ V.heap.size := gy.size; simp; omega) (w2.heap.size + 2) (by have hgt : V.heap.size = w2.heap.size + 1 := sV; simp; omega) ?_; intro gg cp w3 hown3 hgrow hat hlt3; have hc3 := keepC (keepB ⟨hcV1, hcV2⟩ (World.grownBy_alloc V _ none)) hgrow nr; obtain ⟨hc31, hc32⟩ := hc3))
        all_goals
          obtain ⟨r1, r2, r3, r4⟩ := pr_next hg2 hbox2 (Hq.out.grown gx) Ho.out hown2 (grownBy_trans (grownBy_drew (grownBy_refl w2 none)) gy) hbV hgrow hown3
          have R3 := Lib.hid r3
          clear r3 hown3 hgrow hbV gy hown2 hbox2 hown hbox
          go_wp2
          go_roundw
          case rel => exact ⟨k + 1, _, _, by omega, by go_num, r1, r2, R3.out, r4⟩
          case measure => simp [intOf]; omega
    · obtain rfl : k = ss.length := by omega
      obtain ⟨ts, hp, hP⟩ := prem_made hl hbox hown Hq.out
      have Hp := Lib.hid hp
      have HP := Lib.hid hP
      clear hp hP hbox hown
      go_wp2
      go_ret2
      exact ⟨hgr, .inr ⟨ts, _, Hp.out, HP.out, rfl⟩⟩

end Go.Proofs.YtlnffpofbfigaaaGreatDoor

/-
  impl.settingsWith and the function that it hands back: it yields just those settings to which the premises' question says yes: for every loop body that keeps what lay beyond the call. The chain has 1 to 6 steps.
-/
namespace Go.Proofs.YtlnffpofbfigaaaGreatDoor
open Go.RowKit Go.Shelf
attribute [local go_sem] Oper.semAt_some

theorem roundAny {F : Fence} (hd : F.depth = none) {m m' : Nat} {P : Program} {l : Nat} {f : FuncId} {tmps : Array Value} {assign body : Code} {w : World} {R : Ending → World → Prop}
    (h : RoundIn F m P l f tmps assign body w R) : RoundIn F m' P l f tmps assign body w R :=
  ⟨h.1, fun c cs _ => h.2 c cs (fun d e => by rw [hd] at e; cases e)⟩

theorem withs_any (F : Fence) (n : Nat) (h : F.fn 165) (hro : F.round = none) (N : Int) (B : Nat) (w : World) :
    CallsIn F n Tryz.prog 165 #[.int .i64 N, .func (.func 195) #[] #[.pointer (some ⟨B, 0, none⟩)]] w fun e w' =>
      e = .returned (.func (.func 197) #[] #[.pointer (some ⟨w.heap.size, 0, none⟩), .pointer (some ⟨w.heap.size + 1, 0, none⟩)]) ∧
      w' = (w.alloc (.cells #[.int .i64 N] 3)).alloc (.cells #[.func (.func 195) #[] #[.pointer (some ⟨B, 0, none⟩)]] 167) := by
  refine callsIn_of_wp Tryz.func165 rfl h ?_ hro
  simp only [Tryz.ntmps165, List.size_toArray, List.length_cons, List.length_nil, Nat.reduceAdd, Nat.reduceSub, Array.replicate_succ, Array.replicate_zero, List.push_toArray, List.append_toArray, List.nil_append, List.cons_append]
  gi_wp2
  go_ret
  exact ⟨rfl, rfl⟩

/-- What a round keeps: what lay below n0, and the two variables that the function has captured. -/
def KpW (n0 Bs Bq : Nat) (X Y : World) : Prop := Below n0 X Y ∧ KpC Bs X Y ∧ KpC Bq X Y
theorem kpW_t {n0 Bs Bq : Nat} {X Y Z : World} (h : KpW n0 Bs Bq X Y) (k : KpW n0 Bs Bq Y Z) : KpW n0 Bs Bq X Z := ⟨h.1.trans k.1, kpC_t h.2.1 k.2.1, kpC_t h.2.2 k.2.2⟩
theorem kpW_b {n0 Bs Bq : Nat} {w : World} (hn : n0 ≤ w.heap.size) (h1 : Bs < w.heap.size) (h2 : Bq < w.heap.size) (W : World) (l : Nat) (o o' : Obj) (hl : w.heap.size ≤ l) (ho : W.heap[l]? = some o) (_ : o.isCells = false) : KpW n0 Bs Bq W (W.putObj l o') :=
  ⟨(Below.refl n0 W).grown (grownBy_putObj' W l o') (by have := (Array.getElem?_eq_some_iff.1 ho).1; omega) (fun k e => by cases e; omega),
    World.cell?_of_block (World.putObj_heap_other (by show Bs ≠ l; omega)), World.cell?_of_block (World.putObj_heap_other (by show Bq ≠ l; omega))⟩
theorem KpW.grown {n0 Bs Bq : Nat} {X Y : World} (hn : n0 ≤ X.heap.size) (h1 : Bs < X.heap.size) (h2 : Bq < X.heap.size) (h : X.grownBy Y none) : KpW n0 Bs Bq X Y :=
  ⟨(Below.refl n0 X).grown h hn (by simp), KpC.grown h1 h, KpC.grown h2 h⟩

/-- Those that have come and were let by. -/
theorem filt_yes {q : Nat → Bool} {pre : List Nat} {x : Nat} (h : q x = true) : (pre ++ [x]).filter q = pre.filter q ++ [x] := by simp [h]
theorem filt_no {q : Nat → Bool} {pre : List Nat} {x : Nat} (h : q x = false) : (pre ++ [x]).filter q = pre.filter q := by simp [h]
theorem filt_lt {q : Nat → Bool} {pre : List Nat} {N : Nat} (h : pre.length < N) : (pre.filter q).length < N := Nat.lt_of_le_of_lt (List.length_filter_le _ _) h

set_option maxRecDepth 100000 in
set_option maxHeartbeats 4000000 in
theorem with_in (l Bs Bq B n0 N : Nat) (hN : 1 ≤ N ∧ N ≤ 6) (ts : List Tr) (w1 : World) (hP : PremAt w1 B ts) (hn0 : w1.heap.size = n0) (J Jx : List Nat → World → Prop) (W0 : World)
    (hJ : OwnFrom W0.heap.size J) (hJx : OwnFrom W0.heap.size Jx)
    (hY : ∀ pre x W, J pre W → pre.length < cub N → YieldAt Fence.wide 3 Tryz.prog l (encK N x) W fun e W' =>
      ((e = .returned (.bool true) ∧ J (pre ++ [x]) W' ∧ KpW n0 Bs Bq W W') ∨ (e = .returned (.bool false) ∧ Jx (pre ++ [x]) W')) ∧ KeepsAt W0.heap.size W W')
    (hBs : W0.cell? ⟨Bs, 0, none⟩ = some (.int .i64 N)) (hBq : W0.cell? ⟨Bq, 0, none⟩ = some (.func (.func 195) #[] #[.pointer (some ⟨B, 0, none⟩)]))
    (hb : Below n0 w1 W0) (hz : n0 ≤ W0.heap.size) (h0 : J [] W0) :
    CallsIn Fence.wide 4 Tryz.prog 197 #[.func (.yield l) #[] #[], .pointer (some ⟨Bs, 0, none⟩), .pointer (some ⟨Bq, 0, none⟩)] W0 fun e W' => (∃ v, e = .returned v) ∧
      ((∃ ys, ys = (List.range (cub N)).filter (allK N ts) ∧ J ys W') ∨ (∃ pre, (∃ k, k < cub N ∧ allK N ts k = true ∧ pre = (List.range (k + 1)).filter (allK N ts)) ∧ Jx pre W')) := by
  refine callsIn_of_wp_marks Tryz.func197 rfl trivial ?_ rfl
  simp only [Tryz.ntmps197, List.size_toArray, List.length_cons, List.length_nil, Nat.reduceAdd, Nat.reduceSub, Array.replicate_succ, Array.replicate_zero, List.push_toArray, List.append_toArray, List.nil_append, List.cons_append]
  have ls := World.block_lt_of_cell? W0 _ hBs
  have lq := World.block_lt_of_cell? W0 _ hBq
  have hs1 := cell_grown hBs (World.grownBy_alloc W0 (.cells #[.func (.yield l) #[] #[]] 166) none)
  gi_wp2_with (refine ⟨trivial, ?_⟩; gi_at_call 186; refine (settings_any _ _ trivial rfl _ _).mono ?_; rintro e w' ⟨rfl, rfl⟩)
  have hy0 := (BlkAt.new W0 #[.func (.yield l) #[] #[]] 166).alloc (.cells #[.int .i64 N] 3)
  have hc0 := BlkAt.new (W0.alloc (.cells #[.func (.yield l) #[] #[]] 166)) #[.int .i64 N] 3
  have hg : W0.grownBy _ none := grownBy_trans (World.grownBy_alloc W0 (.cells #[.func (.yield l) #[] #[]] 166) none) (World.grownBy_alloc _ (.cells #[.int .i64 N] 3) none)
  obtain ⟨W2, hW2⟩ : ∃ W2, ((W0.alloc (.cells #[.func (.yield l) #[] #[]] 166)).alloc (.cells #[.int .i64 N] 3)) = W2 := ⟨_, rfl⟩
  rw [World.size_alloc] at hc0
  rw [hW2] at hy0 hc0 hg ⊢
  have hsz : W2.heap.size = W0.heap.size + 1 + 1 := by rw [← hW2]; simp
  clear hW2 hs1
  refine wpIn_rangeFunc_ownH rfl (show 1 ≤ 4 from by decide) (gf := 206) (lb := #[.pointer (some ⟨W0.heap.size + 1, 0, none⟩)]) rfl trivial (enters_of Tryz.func206 (by kernel_rfl) rfl)
    (settings_stops Fence.wide (4 - 1) trivial rfl (by decide) (W0.heap.size + 1) N hN W2 (by omega) (hc0.cell rfl)) kpC_t (kpC_b (by omega)) (Below.refl _ _) (fun _ => rfl)
    (fun pre W => J (pre.filter (allK N ts)) W ∧ Below n0 w1 W ∧ W.cell? ⟨Bq, 0, none⟩ = some (.func (.func 195) #[] #[.pointer (some ⟨B, 0, none⟩)]) ∧ BlkAt W W0.heap.size #[.func (.yield l) #[] #[]] 166 ∧ BlkAt W (W0.heap.size + 1) #[.int .i64 N] 3)
    (fun c pre W => c = .ret ∧ (∃ p x, pre = p ++ [x] ∧ allK N ts x = true) ∧ Jx (pre.filter (allK N ts)) W)
    (fun s X Y row hs hg' hr => ⟨hJ _ X Y row hs.1 hg' (fun r e => ⟨by have := (hr r e).1; omega, (hr r e).2⟩), hs.2.1.grown hg' (by have := hs.2.1.size; have := hs.2.2.2.2.lt; omega) (fun r e => by have := (hr r e).1; omega), cell_kept hs.2.2.1 hg' (fun r e => (hr r e).2), blk_own (β := Unit) _ _ (fun _ => _) () X Y row hs.2.2.2.1 hg' (fun r e => (hr r e).2), blk_own (β := Unit) _ _ (fun _ => _) () X Y row hs.2.2.2.2 hg' (fun r e => (hr r e).2)⟩)
    (fun c s X Y row hs hg' hr => ⟨hs.1, hs.2.1, hJx _ X Y row hs.2.2 hg' (fun r e => ⟨by have := (hr r e).1; omega, (hr r e).2⟩)⟩)
    ⟨hJ [] W0 W2 none h0 hg (by simp), hb.grown hg hz (by simp), cell_grown hBq hg, hy0, hc0⟩
    (fun x a' W => ∃ b, W0.heap.size + 1 < b ∧ BlkAt W b (set4 N x) 164 ∧ a' = { tmps := #[.func (.yield l) #[] #[], .pointer (some ⟨Bs, 0, none⟩), .pointer (some ⟨Bq, 0, none⟩), .pointer (some ⟨W0.heap.size, 0, none⟩), .pointer (some ⟨b, 0, none⟩), .int .i64 N, .func (.func 206) #[] #[.pointer (some ⟨W0.heap.size + 1, 0, none⟩)], .agg #[.int .i64 N, .int .i64 (tA N x), .int .i64 (tB N x), .int .i64 (tC N x)], undef, undef, undef, undef, undef, undef, undef, undef, undef], defers := [] })
    (fun x a' => Own.from (fun s X Y row hs hg' hr => by obtain ⟨b, h1, h2, h3⟩ := hs; exact ⟨b, h1, blk_own (β := Unit) b _ (fun _ => set4 N x) () X Y row h2 hg' hr, h3⟩) _) ?assign ?body ?done ?stop
  case assign =>
    rintro l' pre x W K ⟨hj, hB, hq, hy, hc⟩ hK
    simp only [encK]
    gi_wp2
    exact hK _ _ ((KeepsOthers.alloc _ _).from _) (KpC.grown hc.lt (World.grownBy_alloc _ _ none)) ⟨hJ _ W _ none hj (World.grownBy_alloc _ _ none) (by simp), hB.alloc (by have := hc.lt; omega) _, cell_grown hq (World.grownBy_alloc _ _ none), hy.alloc _, hc.alloc _⟩ ⟨W.heap.size, hc.lt, BlkAt.new W _ _, rfl⟩
  case body =>
    rintro l' pre x a' W hl' ⟨r, hr⟩ ⟨hj, hB, hq, hy, hc⟩ ⟨b, hbb, hbx, rfl⟩ hlt
    have y0 : W.cell? ⟨W0.heap.size, 0, none⟩ = some (.func (.yield l) #[] #[]) := hy.cell rfl
    have x0 : W.cell? ⟨b, 0, none⟩ = some (.int .i64 N) := hbx.cell rfl
    have x1 : W.cell? ⟨b, 1, none⟩ = some (.int .i64 (tA N x)) := hbx.cell rfl
    have x2 : W.cell? ⟨b, 2, none⟩ = some (.int .i64 (tB N x)) := hbx.cell rfl
    have x3 : W.cell? ⟨b, 3, none⟩ = some (.int .i64 (tC N x)) := hbx.cell rfl
    have hPW : PremAt W B ts := hP.below (by rw [hn0]; exact hB)
    have hlc := hc.lt
    have hd : 1 ≤ 4 - 1 - 1 := by decide
    have cq := prem1_any N hN x ts B W hPW
    clear hPW
    cases hv : allK N ts x
    · rw [hv] at cq
      gi_wp2_with (refine ⟨trivial, ?_⟩; gi_at_call 195; refine (CallsIn.inRound l' (callsIn_wide.2 cq)).mono ?_; rintro e w' ⟨rfl, gx⟩)
      refine ⟨fun _ h => (by cases h), ?_⟩
      gi_wp2
      exact ⟨(KeepsOthers.of_grownBy gx (by simp)).from _, KpC.grown hc.lt gx, by rw [filt_no hv]; exact hJ _ W _ none hj gx (by simp), hB.grown gx (by have := hB.size; omega) (by simp), cell_grown hq gx, hy.grown gx, hc.grown gx⟩
    · rw [hv] at cq
      gi_wp2_with (refine ⟨trivial, ?_⟩; gi_at_call 195; refine (CallsIn.inRound l' (callsIn_wide.2 cq)).mono ?_; rintro e w' ⟨rfl, gx⟩; have y0' := cell_grown y0 gx; have x0' := cell_grown x0 gx; have x1' := cell_grown x1 gx; have x2' := cell_grown x2 gx; have x3' := cell_grown x3 gx; obtain ⟨fn, tmps, asg, bod, hyl, hR⟩ := hY (pre.filter (allK N ts)) x w' (hJ _ W _ none hj gx (by simp)) (filt_lt hlt); unfold encK at hyl)
      refine (RoundIn.mono (roundAny rfl hR) ?_)
      rintro e w4 ⟨hor, hka⟩
      have hg4 : KeepsFrom W2.heap.size W w4 := ((KeepsAt.grown gx).trans (hka.mono (by omega))).keeps
      rcases hor with ⟨rfl, hj4, hkp⟩ | ⟨rfl, hj4⟩
      · gi_wp2
        exact ⟨hg4, kpC_t (KpC.grown hc.lt gx) (World.cell?_of_block (hka.block (by show _ ≤ W0.heap.size + 1; omega) (hc.grown gx).lt)), by rw [filt_yes hv]; exact hj4, (hB.grown gx (by have := hB.size; omega) (by simp)).trans hkp.1, hkp.2.2.trans (cell_grown hq gx), hka.same _ _ (Nat.le_refl _) (hy.grown gx), hka.same _ _ (by omega) (hc.grown gx)⟩
      · gi_wp2
        exact ⟨hg4, rfl, ⟨pre, x, rfl, hv⟩, by rw [filt_yes hv]; exact hj4⟩
  case done =>
    rintro D ys W hD rfl ⟨hj, _⟩ hK
    gi_wp2
    refine ⟨by simp, .inl ⟨_, _, rfl, run_takeDeferred hK, ?_⟩⟩
    exact ⟨_, results_none rfl _ _ _, ⟨_, rfl⟩, .inl ⟨_, rfl, hJ.putObj _ hj (by omega) hK rfl⟩⟩
  case stop =>
    rintro D c pre W hD ⟨k, hk, rfl⟩ ⟨rfl, ⟨p, x, hpx, hqx⟩, hj⟩ hK
    have hpx' := hpx
    rw [List.range_succ] at hpx'
    obtain ⟨rfl, hx'⟩ := List.append_inj' hpx' rfl
    obtain rfl : k = x := by simpa using hx'
    gi_wp2
    refine ⟨by simp, .inl ⟨_, _, rfl, run_takeDeferred hK, ?_⟩⟩
    exact ⟨_, results_none rfl _ _ _, ⟨_, rfl⟩, .inr ⟨(List.range (k + 1)).filter (allK N ts), ⟨k, hk, hqx, by first | rfl | rw [List.range_succ, List.filter_append]⟩, hJx.putObj (s := (List.range (k + 1)).filter (allK N ts)) _ hj (by omega) hK rfl⟩⟩

theorem with_stops (Bs Bq B n0 N : Nat) (hN : 1 ≤ N ∧ N ≤ 6) (ts : List Tr) (w1 w : World) (hP : PremAt w1 B ts) (hn0 : w1.heap.size = n0)
    (hBs : w.cell? ⟨Bs, 0, none⟩ = some (.int .i64 N)) (hBq : w.cell? ⟨Bq, 0, none⟩ = some (.func (.func 195) #[] #[.pointer (some ⟨B, 0, none⟩)]))
    (hb : Below n0 w1 w) (hz : n0 ≤ w.heap.size) :
    SeqStopsO Fence.wide 4 Tryz.prog 197 #[.pointer (some ⟨Bs, 0, none⟩), .pointer (some ⟨Bq, 0, none⟩)] (encK N) (KpW n0 Bs Bq) (fun ys => ys = (List.range (cub N)).filter (allK N ts)) (fun pre => ∃ k, k < cub N ∧ allK N ts k = true ∧ pre = (List.range (k + 1)).filter (allK N ts)) (cub N) w := fun l J Jx W hW hJ hJx hY h0 =>
  with_in l Bs Bq B n0 N hN ts w1 hP hn0 J Jx W hJ hJx hY ((hW.cell (p := ⟨Bs, 0, none⟩) (World.block_lt_of_cell? w _ hBs)).trans hBs) ((hW.cell (p := ⟨Bq, 0, none⟩) (World.block_lt_of_cell? w _ hBq)).trans hBq)
    (hb.trans (hW.mono hz)) (Nat.le_trans hz hW.size) h0

end Go.Proofs.YtlnffpofbfigaaaGreatDoor

/-
  impl.PremisesOk and impl.CountTrue: how many values of the letters make all premises true. No condition.
-/
namespace Go.Proofs.YtlnffpofbfigaaaGreatDoor
open Go.RowKit Go.Shelf
attribute [local go_sem] Oper.semAt_some

theorem prem_any (a : Option Addr) (cap : Nat) (ss : List ByteArray) (w : World) (h : StrsAt w a ss) :
    Calls Tryz.prog 162 #[.slice a ss.length cap] w (PremPost ss w) := by
  by_cases hl : ss.length ≤ 3
  · exact prem_short a cap ss hl w h
  · exact prem_long a cap ss (by omega) h.1 w
theorem prem_yes (a : Option Addr) (cap : Nat) (ss : List ByteArray) (w : World) (h : StrsAt w a ss) {ts : List Tr} (ho : prOf (ss.map bl) = some ts) :
    Calls Tryz.prog 162 #[.slice a ss.length cap] w fun e w' => ∃ B, e = .returned (.tuple #[.func (.func 195) #[] #[.pointer (some ⟨B, 0, none⟩)], .bool true]) ∧ PremAt w' B ts ∧ w.grownBy w' none := by
  refine (prem_any a cap ss w h).mono ?_
  rintro e w' ⟨g, ⟨h1, _⟩ | ⟨us, B, h1, h2, h3⟩⟩
  · rw [ho] at h1; cases h1
  · rw [ho] at h1; cases h1
    exact ⟨B, h3, h2, g⟩

theorem KpW.refl (n0 Bs Bq : Nat) (X : World) : KpW n0 Bs Bq X X := ⟨Below.refl _ _, rfl, rfl⟩

end Go.Proofs.YtlnffpofbfigaaaGreatDoor

/-
  impl.FollowsFrom: whether a formula is true wherever all premises are. No condition.
-/
namespace Go.Proofs.YtlnffpofbfigaaaGreatDoor
open Go.RowKit Go.Shelf
attribute [local go_sem] Oper.semAt_some

theorem ff_prem (a : Option Addr) (cap : Nat) (ss : List ByteArray) (w : World) (h : StrsAt w a ss) :
    Calls Tryz.prog 162 #[.slice a ss.length cap] w fun e w' => ∃ v, e = .returned (.tuple #[v, .bool (premB (ss.map bl))]) ∧ (v = .nilFunc ∨ ∃ B, v = .func (.func 195) #[] #[.pointer (some ⟨B, 0, none⟩)]) ∧ w.grownBy w' none := by
  refine (prem_any a cap ss w h).mono ?_
  rintro e w' ⟨g, ⟨h1, h2⟩ | ⟨ts, B, h1, _, h2⟩⟩
  · rw [premB_f h1]; exact ⟨_, h2, .inl rfl, g⟩
  · rw [premB_t h1]; exact ⟨_, h2, .inr ⟨B, rfl⟩, g⟩

/-- What impl.chainTree leaves, whatever it is. -/
def ChainOr (b : Bool) (w : World) (e : Ending) (w' : World) : Prop := ∃ v, IsNode v ∧ e = .returned (.tuple #[v, .bool b]) ∧ w.grownBy w' none
theorem chain_or (n : Int) (s : ByteArray) (w : World) : Calls Tryz.prog 163 #[.int .i64 n, .string s] w (ChainOr (inB n 1 6 && isF (bl s)) w) := by
  cases hi : inB n 1 6
  · exact chain_no n s w (.inl hi)
  · cases ho : fOf (bl s) with
    | none => rw [isF_f ho]; exact chain_no n s w (.inr ho)
    | some t =>
      rw [isF_t ho]
      exact (chain_yes s w hi ho).mono fun e w' ⟨h1, h2⟩ => ⟨_, .inr ⟨_, _, rfl⟩, h1, h2⟩

theorem res_in {w w1 w2 : World} (g1 : (w.alloc (.cells #[.bool false] 4)).grownBy w1 none) (g2 : w1.grownBy w2 none) (v : Value) : w.grownBy (w2.setCell ⟨w.heap.size, 0, none⟩ v) none :=
  grown_of ((below_of (grownBy_trans (grownBy_trans (World.grownBy_alloc w _ none) g1) g2)).setCell (by simp) _)

set_option maxHeartbeats 1000000 in
theorem ff_no (n : Int) (a : Option Addr) (cap : Nat) (ss : List ByteArray) (s : ByteArray) (w : World) (h : StrsAt w a ss) (hn : (premB (ss.map bl) && (inB n 1 6 && isF (bl s))) = false) :
    Calls Tryz.prog 135 #[.int .i64 n, .slice a ss.length cap, .string s] w fun e w' => e = .returned (.bool false) ∧ w.grownBy w' none := by
  have cc := ff_prem a cap ss _ (h.grown (World.grownBy_alloc w (.cells #[.bool false] 4) none))
  have ct := fun w => chain_or n s w
  clear h
  generalize premB (ss.map bl) = p at *
  generalize (inB n 1 6 && isF (bl s)) = q at *
  cases p
  · clear hn
    go_enter Tryz.func135, Tryz.ntmps135
    go_wp2_with fail
    refine cc.mono ?_
    rintro e w1 ⟨v, rfl, hv, g1⟩
    clear cc
    have R1 := (BlkAt.new w #[.bool false] 4).grown g1
    rcases hv with rfl | ⟨B, rfl⟩
    all_goals
      go_wp2_with fail
      refine (ct _).mono ?_
      rintro e w2 ⟨v', hv', rfl, g2⟩
      clear ct
      have R2 := R1.grown g2
      have c0 := R2.cell (i := 0) rfl
      have z0 := R2.frozen 0
      rcases hv' with rfl | ⟨T', p', rfl⟩
      all_goals
        go_wp2_with fail
        refine bodyPost_ret (v := .bool false) ?_ rfl ⟨rfl, res_in g1 g2 _⟩
        have c1 := (R2.set 0 (.bool false)).cell (i := 0) rfl
        simp [results, Tryz.f135, go_sem, c1]
  · cases q
    · clear hn
      go_enter Tryz.func135, Tryz.ntmps135
      go_wp2_with fail
      refine cc.mono ?_
      rintro e w1 ⟨v, rfl, hv, g1⟩
      clear cc
      have R1 := (BlkAt.new w #[.bool false] 4).grown g1
      rcases hv with rfl | ⟨B, rfl⟩
      all_goals
        go_wp2_with fail
        refine (ct _).mono ?_
        rintro e w2 ⟨v', hv', rfl, g2⟩
        clear ct
        have R2 := R1.grown g2
        have c0 := R2.cell (i := 0) rfl
        have z0 := R2.frozen 0
        rcases hv' with rfl | ⟨T', p', rfl⟩
        all_goals
          go_wp2_with fail
          refine bodyPost_ret (v := .bool false) ?_ rfl ⟨rfl, res_in g1 g2 _⟩
          have c1 := (R2.set 0 (.bool false)).cell (i := 0) rfl
          simp [results, Tryz.f135, go_sem, c1]
    · cases hn

/-- What lies before the loop of impl.FollowsFrom. -/
def FfBlk (r q : Nat) (t : Tr) (f : Bool) (W : World) : Prop :=
  BlkAt W r #[.bool f] 4 ∧ BlkAt W q #[.iface (nodeT t) (nodeP t)] 131 ∧ BlkAt W (q + 1) #[.func (.func 196) #[] #[.pointer (some ⟨q, 0, none⟩)]] 167 ∧ q + 1 + 1 + 1 < W.heap.size
theorem FfBlk.grown {r q : Nat} {t : Tr} {f : Bool} {W W' : World} (h : FfBlk r q t f W) (hg : W.grownBy W' none) : FfBlk r q t f W' := ⟨h.1.grown hg, h.2.1.grown hg, h.2.2.1.grown hg, Nat.lt_of_lt_of_le h.2.2.2 hg.size⟩
theorem FfBlk.own {β : Type} (r q : Nat) (t : Tr) (f : Bool) : Own (fun (_ : β) W => FfBlk r q t f W) := Own.and (blk_own _ _ _) (Own.and (blk_own _ _ _) (Own.and (blk_own _ _ _) (fun _ _ _ _ hs hg _ => Nat.lt_of_lt_of_le hs hg.size)))
theorem FfBlk.put {r q : Nat} {t : Tr} {f : Bool} {W : World} (h : FfBlk r q t f W) (hr : r < q) (g : Bool) : FfBlk r q t g (W.setCell ⟨r, 0, none⟩ (.bool g)) :=
  ⟨h.1.set 0 _, h.2.1.other (by show r ≠ q; omega) _, h.2.2.1.other (by show r ≠ q + 1; omega) _, by rw [World.size_setCell]; exact h.2.2.2⟩

set_option maxRecDepth 100000 in
set_option maxHeartbeats 4000000 in
theorem ff_yes (N : Nat) (hN : 1 ≤ N ∧ N ≤ 6) (a : Option Addr) (cap : Nat) (ss : List ByteArray) (s : ByteArray) (w : World) (h : StrsAt w a ss) {ts : List Tr} {t : Tr} (ho : prOf (ss.map bl) = some ts) (ht : fOf (bl s) = some t) :
    Calls Tryz.prog 135 #[.int .i64 N, .slice a ss.length cap, .string s] w fun e w' => e = .returned (.bool (folK N ts t)) ∧ w.grownBy w' none := by
  have cc := prem_yes a cap ss _ (h.grown (World.grownBy_alloc w (.cells #[.bool false] 4) none)) ho
  have ct := fun w => chain_yes s w (inB_t (n := N) (by omega)) ht
  clear h ho ht
  refine (callsIn_wide (n := 5)).1 ?_
  refine callsIn_of_wp_marks Tryz.func135 rfl trivial ?_ rfl
  simp only [Tryz.ntmps135, List.size_toArray, List.length_cons, List.length_nil, Nat.reduceAdd, Nat.reduceSub, Array.replicate_succ, Array.replicate_zero, List.push_toArray, List.append_toArray, List.nil_append, List.cons_append]
  gi_wp2_with (refine ⟨trivial, ?_⟩; gi_at_call 162; refine (callsIn_wide.2 cc).mono ?_; clear cc; rintro e w1 ⟨B, rfl, hP, g1⟩)
  gi_wp2_with (refine ⟨trivial, ?_⟩; gi_at_call 163; refine (callsIn_wide.2 (ct _)).mono ?_; clear ct; rintro e w2 ⟨rfl, g2⟩)
  gi_wp2_with (refine ⟨trivial, ?_⟩; gi_at_call 164; refine (callsIn_wide.2 (truth_box t _)).mono ?_; rintro e w3 ⟨rfl, hbq, g3, s3⟩)
  gi_wp2_with (refine ⟨trivial, ?_⟩; gi_at_call 165; refine (withs_any _ _ trivial rfl _ _ _).mono ?_; rintro e w' ⟨rfl, rfl⟩)
  have c1 := ((BlkAt.new w3 #[.func (.func 196) #[] #[.pointer (some ⟨w2.heap.size, 0, none⟩)]] 167).alloc (.cells #[.int .i64 N] 3)).alloc (.cells #[.func (.func 195) #[] #[.pointer (some ⟨B, 0, none⟩)]] 167)
  have c2 := (BlkAt.new (w3.alloc (.cells #[.func (.func 196) #[] #[.pointer (some ⟨w2.heap.size, 0, none⟩)]] 167)) #[.int .i64 N] 3).alloc (.cells #[.func (.func 195) #[] #[.pointer (some ⟨B, 0, none⟩)]] 167)
  have c3 := BlkAt.new ((w3.alloc (.cells #[.func (.func 196) #[] #[.pointer (some ⟨w2.heap.size, 0, none⟩)]] 167)).alloc (.cells #[.int .i64 N] 3)) #[.func (.func 195) #[] #[.pointer (some ⟨B, 0, none⟩)]] 167
  have hg : w3.grownBy (((w3.alloc (.cells #[.func (.func 196) #[] #[.pointer (some ⟨w2.heap.size, 0, none⟩)]] 167)).alloc (.cells #[.int .i64 N] 3)).alloc (.cells #[.func (.func 195) #[] #[.pointer (some ⟨B, 0, none⟩)]] 167)) none := grownBy_trans (grownBy_trans (World.grownBy_alloc _ _ none) (World.grownBy_alloc _ _ none)) (World.grownBy_alloc _ _ none)
  rw [s3] at c1
  rw [World.size_alloc, s3] at c2
  rw [World.size_alloc, World.size_alloc, s3] at c3
  obtain ⟨W0, hW0⟩ : ∃ W0, (((w3.alloc (.cells #[.func (.func 196) #[] #[.pointer (some ⟨w2.heap.size, 0, none⟩)]] 167)).alloc (.cells #[.int .i64 N] 3)).alloc (.cells #[.func (.func 195) #[] #[.pointer (some ⟨B, 0, none⟩)]] 167)) = W0 := ⟨_, rfl⟩
  rw [hW0] at c1 c2 c3 hg ⊢
  have hsz : W0.heap.size = w2.heap.size + 1 + 1 + 1 + 1 := by rw [← hW0]; simp [s3]
  clear hW0
  have hw1 := g1.size
  have hw2 := g2.size
  simp only [World.size_alloc] at hw1
  have hM : FfBlk w.heap.size w2.heap.size t false W0 := ⟨(((BlkAt.new w #[.bool false] 4).grown g1).grown (grownBy_trans g2 (grownBy_trans g3 hg))), BlkAt.grown (show BlkAt w3 _ _ _ from hbq) hg, c1, by omega⟩
  have hB0 : Below w.heap.size w W0 := below_of (grownBy_trans (grownBy_trans (World.grownBy_alloc w _ none) g1) (grownBy_trans g2 (grownBy_trans g3 hg)))
  have hB1 : Below w1.heap.size w1 W0 := below_of (grownBy_trans g2 (grownBy_trans g3 hg))
  refine wpIn_rangeFunc_ownO rfl (show 1 ≤ 5 from by decide) (gf := 197) (lb := #[.pointer (some ⟨w2.heap.size + 1 + 1, 0, none⟩), .pointer (some ⟨w2.heap.size + 1 + 1 + 1, 0, none⟩)]) rfl trivial (enters_of Tryz.func197 (by kernel_rfl) rfl)
    (with_stops (w2.heap.size + 1 + 1) (w2.heap.size + 1 + 1 + 1) B w1.heap.size N hN ts w1 W0 hP rfl (c2.cell rfl) (c3.cell rfl) hB1 (by omega)) kpW_t (kpW_b (by omega) (by omega) (by omega)) (Below.refl _ _) (fun _ => rfl)
    (fun pre W => (FfBlk w.heap.size w2.heap.size t false W ∧ ∀ x ∈ pre, truK N t x = true) ∧ Below w.heap.size w W)
    (fun c pre W => (FfBlk w.heap.size w2.heap.size t false W ∧ (∃ x, x ∈ pre ∧ truK N t x = false) ∧ c = .ret) ∧ Below w.heap.size w W)
    (OwnFrom.and (Own.from (Own.and (FfBlk.own _ _ _ _) (own_pure _)) _) (ownFrom_below (Nat.le_refl _) (by omega)))
    (fun c => OwnFrom.and (Own.from (Own.and (FfBlk.own _ _ _ _) (own_pure _)) _) (ownFrom_below (Nat.le_refl _) (by omega)))
    ⟨⟨hM, by simp⟩, hB0⟩
    (fun x a' W => ∃ b, w2.heap.size + 1 + 1 + 1 < b ∧ BlkAt W b (set4 N x) 164 ∧ a' = { tmps := #[.int .i64 N, .slice a ss.length cap, .string s, undef, undef, undef, .pointer (some ⟨w.heap.size, 0, none⟩), .func (.func 195) #[] #[.pointer (some ⟨B, 0, none⟩)], .bool true, .iface (nodeT t) (nodeP t), .bool true, .pointer (some ⟨w2.heap.size + 1, 0, none⟩), .pointer (some ⟨b, 0, none⟩), .tuple #[.func (.func 195) #[] #[.pointer (some ⟨B, 0, none⟩)], .bool true], .slice a ss.length cap, .tuple #[.func (.func 195) #[] #[.pointer (some ⟨B, 0, none⟩)], .bool true], .func (.func 195) #[] #[.pointer (some ⟨B, 0, none⟩)], .bool true, .tuple #[.iface (nodeT t) (nodeP t), .bool true], .int .i64 N, .string s, .tuple #[.iface (nodeT t) (nodeP t), .bool true], .iface (nodeT t) (nodeP t), .bool true, .bool true, .bool false, .bool false, .bool true, .bool false, .bool false, .iface (nodeT t) (nodeP t), .func (.func 196) #[] #[.pointer (some ⟨w2.heap.size, 0, none⟩)], .int .i64 N, .func (.func 195) #[] #[.pointer (some ⟨B, 0, none⟩)], .func (.func 197) #[] #[.pointer (some ⟨w2.heap.size + 1 + 1, 0, none⟩), .pointer (some ⟨w2.heap.size + 1 + 1 + 1, 0, none⟩)], .agg #[.int .i64 N, .int .i64 (tA N x), .int .i64 (tB N x), .int .i64 (tC N x)], undef, undef, undef, undef], defers := [] })
    (fun x a' => Own.from (fun s A B row hs hg hr => by obtain ⟨b, h1, h2, h3⟩ := hs; exact ⟨b, h1, blk_own (β := Unit) b _ (fun _ => set4 N x) () A B row h2 hg hr, h3⟩) _) ?assign ?body ?done ?stop
  case assign =>
    rintro l pre x W K ⟨⟨hA, hp⟩, hB⟩ hK
    have lA := hA.2.2.2
    simp only [encK]
    gi_wp2
    exact hK _ _ (KeepsAt.alloc _ _ _) (KpW.grown (by omega) (by omega) (by omega) (World.grownBy_alloc _ _ none)) ⟨⟨hA.grown (World.grownBy_alloc _ _ none), hp⟩, hB.alloc hB.size _⟩ ⟨W.heap.size, lA, BlkAt.new W _ _, rfl⟩
  case body =>
    rintro l pre x a' W hl ⟨r, hr⟩ ⟨⟨hA, hp⟩, hB⟩ ⟨b, hb, hbx, rfl⟩ hlt
    have q0 : W.cell? ⟨w2.heap.size + 1, 0, none⟩ = some (.func (.func 196) #[] #[.pointer (some ⟨w2.heap.size, 0, none⟩)]) := hA.2.2.1.cell rfl
    have t0 : W.cell? ⟨w2.heap.size, 0, none⟩ = some (.iface (nodeT t) (nodeP t)) := hA.2.1.cell rfl
    have x0 : W.cell? ⟨b, 0, none⟩ = some (.int .i64 N) := hbx.cell rfl
    have x1 : W.cell? ⟨b, 1, none⟩ = some (.int .i64 (tA N x)) := hbx.cell rfl
    have x2 : W.cell? ⟨b, 2, none⟩ = some (.int .i64 (tB N x)) := hbx.cell rfl
    have x3 : W.cell? ⟨b, 3, none⟩ = some (.int .i64 (tC N x)) := hbx.cell rfl
    have lb := hbx.lt
    have cq := tru1_any N hN x t w2.heap.size W t0
    have hd : 1 ≤ 5 - 1 - 1 := by decide
    clear t0
    cases hv : truK N t x
    · rw [hv] at cq
      gi_wp2_with (refine ⟨trivial, ?_⟩; gi_at_call 196; refine (CallsIn.inRound l (callsIn_wide.2 cq)).mono ?_; rintro e w' ⟨rfl, gx⟩; have hA' := hA.grown gx; have r0 : w'.cell? ⟨w.heap.size, 0, none⟩ = some (.bool false) := hA'.1.cell rfl; have z0 := hA'.1.frozen 0)
      exact ⟨(KeepsAt.grown gx).trans (KeepsAt.setCell _ (by omega) _), ⟨hA'.put (by omega) false, ⟨x, by simp, hv⟩, rfl⟩, hB.trans (((below_of gx).mono hB.size).setCell (by simp) _)⟩
    · rw [hv] at cq
      gi_wp2_with (refine ⟨trivial, ?_⟩; gi_at_call 196; refine (CallsIn.inRound l (callsIn_wide.2 cq)).mono ?_; rintro e w' ⟨rfl, gx⟩)
      exact ⟨KeepsAt.grown gx, KpW.grown (by omega) (by omega) (by omega) gx, ⟨hA.grown gx, fun y hy => (List.mem_append.1 hy).elim (hp y) (fun e => by simp at e; rw [e]; exact hv)⟩, hB.trans ((below_of gx).mono hB.size)⟩
  case done =>
    rintro D ys W hD rfl ⟨⟨hA, hp⟩, hB⟩ hK
    have hs : folK N ts t = true := folK_mk fun k hk ha => hp k (List.mem_filter.2 ⟨List.mem_range.2 hk, ha⟩)
    have r0 : W.cell? ⟨w.heap.size, 0, none⟩ = some (.bool false) := hA.1.cell rfl
    have z0 := hA.1.frozen 0
    gi_wp2
    have hK' := (KeepsOthers.setCell W ⟨w.heap.size, 0, none⟩ (.bool true)).same D _ hK rfl
    refine ⟨by simp, .inl ⟨_, _, rfl, run_takeDeferred hK', ?_⟩⟩
    have c0 := cell_kept ((hA.put (by omega) true).1.cell (i := 0) rfl) (grownBy_putObj' _ D (.deferred none)) (fun r e => by cases e; exact ⟨_, hK', rfl⟩)
    refine ⟨.bool true, ?_, by first | rfl | rw [hs], grown_of ((hB.setCell (p := ⟨w.heap.size, 0, none⟩) (by simp) _).trans (belowK_b (w := w) (Nat.le_refl _) _ D _ _ (by omega) hK' rfl rfl))⟩
    simp [results, Tryz.f135, go_sem, c0]
  case stop =>
    rintro D c pre W hD ⟨k, hk, ha, rfl⟩ ⟨⟨hA, ⟨x, hx, hv⟩, rfl⟩, hB⟩ hK
    rw [List.mem_filter, List.mem_range] at hx
    have hs : folK N ts t = false := folK_no (by omega) hx.2 hv
    gi_wp2
    refine ⟨by simp, .inl ⟨_, _, rfl, run_takeDeferred hK, ?_⟩⟩
    have c0 := cell_kept (hA.1.cell (i := 0) rfl) (grownBy_putObj' _ D (.deferred none)) (fun r e => by cases e; exact ⟨_, hK, rfl⟩)
    refine ⟨.bool false, ?_, by first | rfl | rw [hs], grown_of (hB.trans (belowK_b (w := w) (Nat.le_refl _) _ D _ _ (by omega) hK rfl rfl))⟩
    simp [results, Tryz.f135, go_sem, c0]

theorem ff_any (n : Int) (a : Option Addr) (cap : Nat) (ss : List ByteArray) (s : ByteArray) (w : World) (h : StrsAt w a ss) :
    Calls Tryz.prog 135 #[.int .i64 n, .slice a ss.length cap, .string s] w fun e w' => e = .returned (.bool (folI n (ss.map bl) (bl s))) ∧ w.grownBy w' none := by
  cases ho : prOf (ss.map bl) with
  | none => rw [folI_p ho]; exact ff_no n a cap ss s w h (by rw [premB_f ho]; rfl)
  | some ts =>
    cases hi : inB n 1 6
    · rw [folI_o hi]; exact ff_no n a cap ss s w h (by rw [hi]; simp)
    · cases hf : fOf (bl s) with
      | none => rw [folI_n hf]; exact ff_no n a cap ss s w h (by rw [isF_f hf]; simp)
      | some t =>
        obtain ⟨N, rfl, hN⟩ := nat_of hi
        rw [folI_t ho hf hi]
        exact ff_yes N hN a cap ss s w h ho hf

end Go.Proofs.YtlnffpofbfigaaaGreatDoor

/-
  The model's PremisesOk, l7All, CountTrue, FollowsFrom. No condition.
-/
namespace Go.Proofs.YtlnffpofbfigaaaGreatDoor
open Go.RowKit

theorem premB_bad {ss : List ByteArray} {k : Nat} (hk : k < ss.length) (h : isF (bl (ss.getD k nilS)) = false) : premB (ss.map bl) = false := premB_f (prOf_at_none hk (isF_not h))
theorem premB_all {ss : List ByteArray} (h : ∀ k, k < ss.length → isF (bl (ss.getD k nilS)) = true) : premB (ss.map bl) = decide ((ss.length : Int) ≤ 3) := by
  by_cases hl : ss.length ≤ 3
  · obtain ⟨ts, ht⟩ := prOf_at_some hl fun k hk => isF_of (h k hk)
    rw [premB_t ht]
    exact (decide_eq_true (by omega)).symm
  · rw [premB_f (prOf_l (by simpa using hl))]
    exact (decide_eq_false (by omega)).symm

def SpRel (ss : List ByteArray) (w : World) (i : Value) (wr : World) : Prop := ∃ k : Nat, k ≤ ss.length ∧ i = .int .i64 k ∧ (∀ j, j < k → isF (bl (ss.getD j nilS)) = true) ∧ w = wr

set_option maxHeartbeats 1000000 in
theorem sprem_any (a : Option Addr) (cap : Nat) (ss : List ByteArray) (w : World) (h : StrsAt w a ss) :
    Calls Tryz.prog 113 #[.slice a ss.length cap] w fun e w' => e = .returned (.bool (premB (ss.map bl))) ∧ w = w' := by
  have hm := h.1
  unfold maxLen at hm
  have Hh := Lib.hid h
  clear h
  go_enter Tryz.func113, Tryz.ntmps113
  go_wp2
  go_loopw [3] (fun i wr => SpRel ss w i wr) (fun i _ => ss.length - (intOf i).toNat)
  case atStart => exact ⟨0, by omega, rfl, fun j hj => absurd hj (by omega), rfl⟩
  case round =>
    obtain ⟨k, hk, rfl, hT, rfl⟩ := hrel
    have HT := Lib.hid hT
    clear hT
    by_cases hlt : k < ss.length
    · rcases Hh.out.2 with h0 | ⟨b, off, rfl, hb, hc⟩
      · rw [h0] at hlt; simp at hlt
      have hck := hc k hlt
      have cf := sform_any (ss.getD k nilS) w
      clear hc hb
      cases hv : isF (bl (ss.getD k nilS))
      · have e := Lib.hid (premB_bad hlt hv)
        rw [hv] at cf
        clear hv
        generalize ss.getD k nilS = s at *
        go_wp2_with (go_at_call 74; refine cf.mono ?_; rintro e w1 ⟨rfl, rfl⟩)
        go_ret
        exact ⟨by rw [e.out]; rfl, rfl⟩
      · have hn : Hid (∀ j, j < k + 1 → isF (bl (ss.getD j nilS)) = true) := fun j hj => by
          by_cases e : j = k
          · rw [e]; exact hv
          · exact HT.out j (by omega)
        rw [hv] at cf
        clear hv
        generalize ss.getD k nilS = s at *
        go_wp2_with (go_at_call 74; refine cf.mono ?_; rintro e w1 ⟨rfl, rfl⟩)
        go_roundw
        case rel => exact ⟨k + 1, by omega, by go_num, hn.out, rfl⟩
        case measure => simp [intOf]; omega
    · obtain rfl : k = ss.length := by omega
      have e := Lib.hid (premB_all HT.out)
      go_wp2
      go_ret
      exact ⟨by rw [e.out]; rfl, rfl⟩

theorem truK_lt {N : Nat} (hN : 1 ≤ N ∧ N ≤ 6) {t : Tr} {k : Nat} (h : truK N t k = false) : atK N t k < N := by
  unfold truK at h
  have h1 := atK_le hN t k
  have h2 := beq_eq_false_iff_ne.1 h
  omega
theorem truK_eq {N : Nat} {t : Tr} {k : Nat} (h : truK N t k = true) : atK N t k = N := by
  unfold truK at h
  exact eq_of_beq h

def SpaRel (N x : Nat) (ts : List Tr) (L : Nat) (w : World) (i : Value) (wr : World) : Prop := ∃ k : Nat, k ≤ L ∧ i = .int .i64 k ∧ (∀ j t, j < k → ts[j]? = some t → truK N t x = true) ∧ w = wr

set_option maxHeartbeats 1000000 in
theorem sall_any (N : Nat) (hN : 1 ≤ N ∧ N ≤ 6) (x : Nat) (a : Option Addr) (cap : Nat) (ss : List ByteArray) (ts : List Tr) (ho : prOf (ss.map bl) = some ts) (w : World) (h : StrsAt w a ss) :
    Calls Tryz.prog 114 #[.int .i64 N, .slice a ss.length cap, .int .i64 (tA N x), .int .i64 (tB N x), .int .i64 (tC N x)] w fun e w' => e = .returned (.bool (allK N ts x)) ∧ w = w' := by
  obtain ⟨hl3, hfs⟩ := prOf_of ho
  have hl : ts.length = ss.length := by have := fsOf_len hfs; simpa using this
  have hss : ss.length ≤ 3 := by simpa using hl3
  have Hh := Lib.hid h
  have Hf := Lib.hid hfs
  have Hl := Lib.hid hl
  clear h ho hfs hl3 hl
  go_enter Tryz.func114, Tryz.ntmps114
  go_wp2
  go_loopw [11] (fun i wr => SpaRel N x ts ss.length w i wr) (fun i _ => ss.length - (intOf i).toNat)
  case atStart => exact ⟨0, by omega, rfl, fun j t hj => absurd hj (by omega), rfl⟩
  case round =>
    obtain ⟨k, hk, rfl, hT, rfl⟩ := hrel
    have HT := Lib.hid hT
    clear hT
    by_cases hlt : k < ss.length
    · rcases Hh.out.2 with h0 | ⟨b, off, rfl, hb, hc⟩
      · have h00 : ss.length = 0 := by rw [h0]; rfl
        omega
      have hck := hc k (by omega)
      obtain ⟨t, ht, hf⟩ := fsOf_at Hf.out k (by simp; omega)
      rw [show (ss.map bl).getD k [] = bl (ss.getD k nilS) by simp [List.getD_eq_getElem?_getD, show k < ss.length by omega]] at hf
      have et := tb_of hf
      have htl := (fOf_some hf).2
      rw [et] at hck
      have cv : ∀ w : World, Calls Tryz.prog 111 #[.int .i64 N, .string (tb t), .int .i64 (tA N x), .int .i64 (tB N x), .int .i64 (tC N x)] w fun e w' => e = .returned (.int .i64 (atK N t x)) ∧ w = w' := fun w => sv_all (tri_ok hN x) t (tb t) w rfl (by rw [tb_size]; omega)
      have Ht := Lib.hid ht
      clear hc hb hf et ht htl
      cases hv : truK N t x
      · have e := Lib.hid (allK_no Ht.out hv)
        have hat := truK_lt hN hv
        clear hv
        generalize atK N t x = v at *
        go_wp2_with (go_at_call 111; refine (cv _).mono ?_; rintro e w1 ⟨rfl, rfl⟩)
        go_ret
        exact ⟨by rw [e.out]; rfl, rfl⟩
      · have hn : Hid (∀ j u, j < k + 1 → ts[j]? = some u → truK N u x = true) := fun j u hj hu => by
          by_cases e : j = k
          · subst e; rw [Ht.out] at hu; cases hu; exact hv
          · exact HT.out j u (by omega) hu
        rw [truK_eq hv] at cv
        clear hv
        go_wp2_with (go_at_call 111; refine (cv _).mono ?_; rintro e w1 ⟨rfl, rfl⟩)
        go_roundw
        case rel => exact ⟨k + 1, by omega, by go_num, hn.out, rfl⟩
        case measure => simp [intOf]; omega
    · obtain rfl : k = ss.length := by omega
      have e : Hid (allK N ts x = true) := allK_yes fun j t hj => HT.out j t (by rw [← Hl.out]; exact hj)
      go_wp2
      go_ret
      exact ⟨by rw [e.out]; rfl, rfl⟩

end Go.Proofs.YtlnffpofbfigaaaGreatDoor

/-
  The model's CountTrue and FollowsFrom. No condition.
-/
namespace Go.Proofs.YtlnffpofbfigaaaGreatDoor
open Go.RowKit

end Go.Proofs.YtlnffpofbfigaaaGreatDoor

/-
  The model's FollowsFrom. No condition.
-/
namespace Go.Proofs.YtlnffpofbfigaaaGreatDoor
open Go.RowKit

theorem sff_no1 (n : Int) (a : Option Addr) (cap : Nat) (ss : List ByteArray) (s : ByteArray) (w : World) (h : StrsAt w a ss) (ho : premB (ss.map bl) = false) :
    Calls Tryz.prog 75 #[.int .i64 n, .slice a ss.length cap, .string s] w fun e w' => e = .returned (.bool false) ∧ w = w' := by
  have cp := sprem_any a cap ss w h
  rw [ho] at cp
  clear h ho
  go_enter Tryz.func75, Tryz.ntmps75
  go_wp2_with (go_at_call 113; refine cp.mono ?_; clear cp; rintro e w1 ⟨rfl, rfl⟩)
  go_ret
  exact ⟨rfl, rfl⟩
theorem sff_no2 (n : Int) (a : Option Addr) (cap : Nat) (ss : List ByteArray) (s : ByteArray) (w : World) (h : StrsAt w a ss) (ho : premB (ss.map bl) = true) (hi : inB n 1 6 = false ∨ fOf (bl s) = none) :
    Calls Tryz.prog 75 #[.int .i64 n, .slice a ss.length cap, .string s] w fun e w' => e = .returned (.bool false) ∧ w = w' := by
  have cp := sprem_any a cap ss w h
  have cl := sleast_no n s w hi
  rw [ho] at cp
  clear h ho hi
  go_enter Tryz.func75, Tryz.ntmps75
  go_wp2_with (first | (go_at_call 113; refine cp.mono ?_; clear cp; rintro e w1 ⟨rfl, rfl⟩) | (go_at_call 66; refine cl.mono ?_; clear cl; rintro e w1 ⟨rfl, rfl⟩))
  go_ret
  exact ⟨rfl, rfl⟩

def SfRel (N : Nat) (ts : List Tr) (t : Tr) (w : World) (i : Value) (wr : World) : Prop := ∃ k : Nat, k ≤ cub N ∧ i = .int .i64 k ∧ (∀ j, j < k → allK N ts j = true → truK N t j = true) ∧ w.grownBy wr none

set_option maxRecDepth 100000 in
set_option maxHeartbeats 4000000 in
theorem sff_yes (N : Nat) (hN : 1 ≤ N ∧ N ≤ 6) (a : Option Addr) (cap : Nat) (ss : List ByteArray) (s : ByteArray) (w : World) (h : StrsAt w a ss) {ts : List Tr} {t : Tr} (ho : prOf (ss.map bl) = some ts) (ht : fOf (bl s) = some t) :
    Calls Tryz.prog 75 #[.int .i64 N, .slice a ss.length cap, .string s] w fun e w' => e = .returned (.bool (folK N ts t)) ∧ w.grownBy w' none := by
  have cp := sprem_any a cap ss w h
  rw [premB_t ho] at cp
  have cl := sleast_yes N hN s w ht
  have l0 : 0 ≤ lowU N t (cub N) := by have := vokB_of (lowU_ok hN t (cub N)); omega
  obtain ⟨hs, hl⟩ := fOf_some ht
  have hsz : s.size ≤ 1048576 := by rw [bl_size, hs]; omega
  have cv : ∀ (k : Nat) (w : World), Calls Tryz.prog 111 #[.int .i64 N, .string s, .int .i64 (tA N k), .int .i64 (tB N k), .int .i64 (tC N k)] w fun e w' => e = .returned (.int .i64 (atK N t k)) ∧ w = w' := fun k w => sv_all (tri_ok hN k) t s w hs hsz
  have Hh := Lib.hid h
  have Ho := Lib.hid ho
  clear h ho ht hs hl hsz
  have hc := cub_le hN.2
  obtain ⟨M, m1, m2⟩ := cub_q hN
  have m0 : ¬ ((N : Int) + 1 = 0) := by omega
  generalize lowU N t (cub N) = L at *
  go_enter Tryz.func75, Tryz.ntmps75
  go_wp2_with (first | (go_at_call 113; refine cp.mono ?_; clear cp; rintro e w1 ⟨rfl, rfl⟩) | (go_at_call 66; refine cl.mono ?_; clear cl; rintro e w1 ⟨rfl, g1⟩))
  go_loopw [8] (fun i wr => SfRel N ts t w i wr) (fun i _ => cub N - (intOf i).toNat)
  case atStart => exact ⟨0, by omega, rfl, fun j hj => absurd hj (by omega), g1⟩
  case round =>
    obtain ⟨k, hk, rfl, hT, hgr⟩ := hrel
    have HT := Lib.hid hT
    clear hT
    by_cases hlt : k < cub N
    · obtain ⟨D, d0, d1, p0, p1, p2, p3⟩ := place_q hlt
      have a0 := tA_le N k
      have b0 := tB_le N k
      have c0 := tC_le N k
      have z1 : IntKind.i64.wrap D = D := IntWalk.i64_in _ (by omega)
      have z2 : IntKind.i64.wrap (tA N k : Int) = tA N k := IntWalk.i64_in _ (by omega)
      have z3 : IntKind.i64.wrap (tB N k : Int) = tB N k := IntWalk.i64_in _ (by omega)
      have z4 : IntKind.i64.wrap (tC N k : Int) = tC N k := IntWalk.i64_in _ (by omega)
      have ca : ∀ n, Calls Tryz.prog 114 #[.int .i64 N, .slice a ss.length cap, .int .i64 (tA N k), .int .i64 (tB N k), .int .i64 (tC N k)] (wr.drewN n) fun e w' => e = .returned (.bool (allK N ts k)) ∧ ∃ m, w' = wr.drewN m :=
        fun n => (sall_any N hN k a cap ss ts Ho.out (wr.drewN n) (Hh.out.grown (grownBy_drewN hgr n))).mono fun e w' h => ⟨h.1, n, h.2.symm⟩
      have cvk : ∀ n, Calls Tryz.prog 111 #[.int .i64 N, .string s, .int .i64 (tA N k), .int .i64 (tB N k), .int .i64 (tC N k)] (wr.drewN n) fun e w' => e = .returned (.int .i64 (atK N t k)) ∧ ∃ m, w' = wr.drewN m :=
        fun n => (cv k (wr.drewN n)).mono fun e w' h => ⟨h.1, n, h.2.symm⟩
      clear cv
      cases hv : allK N ts k
      · rw [hv] at ca
        have hn : Hid (∀ j, j < k + 1 → allK N ts j = true → truK N t j = true) := fun j hj hj2 => by
          by_cases e : j = k
          · rw [e, hv] at hj2; cases hj2
          · exact HT.out j (by omega) hj2
        clear hv cvk
        go_wp2
        go_quiet (first | (go_at_call 114; exact ca _))
        go_wp2
        go_roundw
        case rel => exact ⟨k + 1, by omega, by go_num, hn.out, grownBy_drewN hgr _⟩
        case measure => simp [intOf]; omega
      · rw [hv] at ca
        cases hu : truK N t k
        · have e : Hid (folK N ts t = false) := folK_no hlt hv hu
          have hat := truK_lt hN hu
          clear hv hu
          generalize atK N t k = q at *
          go_wp2
          go_quiet (first | (go_at_call 114; exact ca _) | (go_at_call 111; exact cvk _))
          go_wp2
          go_ret
          exact ⟨by rw [e.out]; rfl, grownBy_drewN hgr _⟩
        · have hn : Hid (∀ j, j < k + 1 → allK N ts j = true → truK N t j = true) := fun j hj hj2 => by
            by_cases e : j = k
            · rw [e]; exact hu
            · exact HT.out j (by omega) hj2
          rw [truK_eq hu] at cvk
          clear hv hu
          go_wp2
          go_quiet (first | (go_at_call 114; exact ca _) | (go_at_call 111; exact cvk _))
          go_wp2
          go_roundw
          case rel => exact ⟨k + 1, by omega, by go_num, hn.out, grownBy_drewN hgr _⟩
          case measure => simp [intOf]; omega
    · obtain rfl : k = cub N := by omega
      have e : Hid (folK N ts t = true) := folK_mk fun j hj hj2 => HT.out j hj hj2
      go_wp2
      go_ret
      exact ⟨by rw [e.out]; rfl, hgr⟩

theorem sff_any (n : Int) (a : Option Addr) (cap : Nat) (ss : List ByteArray) (s : ByteArray) (w : World) (h : StrsAt w a ss) :
    Calls Tryz.prog 75 #[.int .i64 n, .slice a ss.length cap, .string s] w fun e w' => e = .returned (.bool (folI n (ss.map bl) (bl s))) ∧ w.grownBy w' none := by
  cases ho : prOf (ss.map bl) with
  | none => rw [folI_p ho]; exact (sff_no1 n a cap ss s w h (premB_f ho)).mono fun e w' ⟨h1, h2⟩ => ⟨h1, by rw [h2]; exact grownBy_refl _ _⟩
  | some ts =>
    cases hi : inB n 1 6
    · rw [folI_o hi]; exact (sff_no2 n a cap ss s w h (premB_t ho) (.inl hi)).mono fun e w' ⟨h1, h2⟩ => ⟨h1, by rw [h2]; exact grownBy_refl _ _⟩
    · cases hf : fOf (bl s) with
      | none => rw [folI_n hf]; exact (sff_no2 n a cap ss s w h (premB_t ho) (.inr hf)).mono fun e w' ⟨h1, h2⟩ => ⟨h1, by rw [h2]; exact grownBy_refl _ _⟩
      | some t =>
        obtain ⟨N, rfl, hN⟩ := nat_of hi
        rw [folI_t ho hf hi]
        exact sff_yes N hN a cap ss s w h ho hf

end Go.Proofs.YtlnffpofbfigaaaGreatDoor
