/-
  impl.premisesTrue, impl.PremisesOk: the premises' questions are put behind one another. No condition.
-/
import Derived.Test.YtdofeahbgodopaaQues2
namespace Go.Proofs.Ytdofeahbgodopaa
open Go.RowKit Go.Shelf

theorem infoQ : (Try.prog.info? 57).map (fun i => (i.zero, i.size, i.bytes)) = some (some .nilFunc, 1, 8) := by kernel_rfl

theorem own_alloc {w : World} {base : Nat} {e : TypeId} {v : Value} {n : Nat} {xs : List Value} (h : w.ownsRow base e 1 v n xs) (o : Obj) : (w.alloc o).ownsRow base e 1 v n xs := World.ownsRow.alloc h o

theorem truth_box (t : Tr) (w : World) :
    Calls Try.prog 46 #[.iface (nodeT t) (nodeP t)] w fun e w' => e = .returned (.func (.func 64) #[] #[.pointer (some ⟨w.heap.size, 0, none⟩)]) ∧ Boxed w' w.heap.size 65 (.iface (nodeT t) (nodeP t)) ∧ w.grownBy w' none ∧ w'.heap.size = w.heap.size + 1 := by
  refine (truth_any t w).mono ?_
  rintro e w' ⟨rfl, rfl⟩
  exact ⟨rfl, Boxed.new _ _ _, World.grownBy_alloc _ _ none, by simp⟩
theorem keepB {V W : World} {a : Addr} {x : Value} (h : V.cell? a = some x ∧ V.frozen? a = false) (hg : V.grownBy W none) : W.cell? a = some x ∧ W.frozen? a = false :=
  ⟨cell_grown h.1 hg, (World.frozen?_of_block (hg.block a.block (World.block_lt_of_cell? V _ h.1) (by simp))).trans h.2⟩
theorem keepC {V W : World} {a : Addr} {x : Value} {row : Option Nat} (h : V.cell? a = some x ∧ V.frozen? a = false) (hg : V.grownBy W row) (hr : some a.block ≠ row) : W.cell? a = some x ∧ W.frozen? a = false :=
  ⟨(World.cell?_of_block (hg.block a.block (World.block_lt_of_cell? V _ h.1) hr)).trans h.1, (World.frozen?_of_block (hg.block a.block (World.block_lt_of_cell? V _ h.1) hr)).trans h.2⟩

/-- The first k questions, as they lie while they are put together. -/
def QsTo (ss : List ByteArray) (k : Nat) (xs : List Value) (wr : World) : Prop :=
  ∀ j, j < k → ∃ t Q, fOf (bl (ss.getD j nilS)) = some t ∧ xs[j]? = some (.func (.func 64) #[] #[.pointer (some ⟨Q, 0, none⟩)]) ∧ Boxed wr Q 65 (.iface (nodeT t) (nodeP t))
def PrRel (ss : List ByteArray) (w : World) (i : Value) (wr : World) : Prop :=
  ∃ (k : Nat) (xs : List Value) (v : Value), k ≤ ss.length ∧ i = .int .i64 k ∧ Boxed wr w.heap.size 86 v ∧ wr.ownsRow w.heap.size 57 1 v k xs ∧ QsTo ss k xs wr ∧ w.grownBy wr none

theorem QsTo.grown {ss : List ByteArray} {k : Nat} {xs : List Value} {w w' : World} (h : QsTo ss k xs w) (hg : w.grownBy w' none) : QsTo ss k xs w' := fun j hj => by
  obtain ⟨t, Q, h1, h2, h3⟩ := h j hj
  exact ⟨t, Q, h1, h2, h3.kept hg (by simp)⟩

/-- One question more is put to them. -/
theorem pr_next {ss : List ByteArray} {w w2 V w3 : World} {k : Nat} {xs : List Value} {v : Value} {gg cp : Nat} {t : Tr} {o : Obj}
    (hg2 : w.grownBy w2 none) (hbox : Boxed w2 w.heap.size 86 v) (hq : QsTo ss k xs w2) (ho : fOf (bl (ss.getD k nilS)) = some t)
    (hown : w2.ownsRow w.heap.size 57 1 v k xs) (gy : w2.grownBy V none) (hbV : Boxed V w2.heap.size 65 (.iface (nodeT t) (nodeP t)))
    (hgrow : (V.alloc o).grownBy w3 v.ownBlock)
    (hown3 : w3.ownsRow w.heap.size 57 1 (.slice (some ⟨gg, 0, none⟩) (k + 1) cp) (k + 1) (xs ++ [.func (.func 64) #[] #[.pointer (some ⟨w2.heap.size, 0, none⟩)]])) :
    Boxed (w3.setCell ⟨w.heap.size, 0, none⟩ (.slice (some ⟨gg, 0, none⟩) (k + 1) cp)) w.heap.size 86 (.slice (some ⟨gg, 0, none⟩) (k + 1) cp) ∧
    (w3.setCell ⟨w.heap.size, 0, none⟩ (.slice (some ⟨gg, 0, none⟩) (k + 1) cp)).ownsRow w.heap.size 57 1 (.slice (some ⟨gg, 0, none⟩) (k + 1) cp) (k + 1) (xs ++ [.func (.func 64) #[] #[.pointer (some ⟨w2.heap.size, 0, none⟩)]]) ∧
    QsTo ss (k + 1) (xs ++ [.func (.func 64) #[] #[.pointer (some ⟨w2.heap.size, 0, none⟩)]]) (w3.setCell ⟨w.heap.size, 0, none⟩ (.slice (some ⟨gg, 0, none⟩) (k + 1) cp)) ∧
    w.grownBy (w3.setCell ⟨w.heap.size, 0, none⟩ (.slice (some ⟨gg, 0, none⟩) (k + 1) cp)) none := by
  have gV : w2.grownBy (V.alloc o) none := grownBy_trans gy (World.grownBy_alloc V o none)
  have oV : (V.alloc o).ownsRow w.heap.size 57 1 v k xs := World.ownsRow.kept hown gV (by cases v.ownBlock <;> simp)
  have b1 : Boxed (V.alloc o) w.heap.size 86 v := hbox.kept gV (by simp)
  have b3 : Boxed w3 w.heap.size 86 v := b1.kept hgrow (b1.not_row (by decide) oV)
  have old : ∀ {Q : Nat} {u : Value}, Boxed (V.alloc o) Q 65 u → Boxed (w3.setCell ⟨w.heap.size, 0, none⟩ (.slice (some ⟨gg, 0, none⟩) (k + 1) cp)) Q 65 u := fun {Q u} hQ => by
    have h3 := hQ.kept hgrow (hQ.not_row (by decide) oV)
    refine h3.other (fun e => ?_) _
    subst e
    have e2 := (show w3.heap[w.heap.size]? = _ from h3).symm.trans b3
    simp at e2
  have hxl := hown.1
  refine ⟨b3.set _, World.ownsRow.kept hown3 (grownBy_setCell' w3 _ _) (.inr fun e => ?_), fun j hj => ?_, grownBy_own (grownBy_row (grownBy_trans hg2 gV) oV (Nat.le_refl _) hgrow) (grownBy_setCell' w3 _ _)⟩
  · exact b3.not_row (by decide) hown3 e.symm
  · by_cases e : j = k
    · subst e
      refine ⟨t, w2.heap.size, ho, ?_, old (hbV.alloc o)⟩
      rw [List.getElem?_append_right (by omega), show j - xs.length = 0 by omega]
      rfl
    · obtain ⟨u, Q, h1, h2, h3⟩ := hq j (by omega)
      exact ⟨u, Q, h1, by rw [List.getElem?_append_left (by omega)]; exact h2, old (h3.kept gV (by simp))⟩

/-- What impl.premisesTrue leaves. -/
def PremPost (ss : List ByteArray) (w : World) (e : Ending) (w' : World) : Prop :=
  w.grownBy w' none ∧ ((prOf (ss.map bl) = none ∧ e = .returned (.tuple #[.nilFunc, .bool false])) ∨
    (∃ ts B, prOf (ss.map bl) = some ts ∧ PremAt w' B ts ∧ e = .returned (.tuple #[.func (.func 62) #[] #[.pointer (some ⟨B, 0, none⟩)], .bool true])))

theorem prOf_at_none {ss : List ByteArray} {k : Nat} (hk : k < ss.length) (h : fOf (bl (ss.getD k nilS)) = none) : prOf (ss.map bl) = none := by
  cases e : prOf (ss.map bl) with
  | none => rfl
  | some ts =>
    obtain ⟨t, _, ht⟩ := fsOf_at (prOf_of e).2 k (by simpa using hk)
    rw [show (ss.map bl).getD k [] = bl (ss.getD k nilS) by simp [List.getD_eq_getElem?_getD, hk]] at ht
    rw [h] at ht; cases ht
theorem prOf_at_some {ss : List ByteArray} (hs : ss.length ≤ 3) (h : ∀ k, k < ss.length → ∃ t, fOf (bl (ss.getD k nilS)) = some t) : ∃ ts, prOf (ss.map bl) = some ts := by
  obtain ⟨ts, ht⟩ := fsOf_of (ls := ss.map bl) fun i hi => by
    obtain ⟨t, ht⟩ := h i (by simpa using hi)
    rw [show (ss.map bl).getD i [] = bl (ss.getD i nilS) by simp at hi; simp [List.getD_eq_getElem?_getD, hi]]
    exact isF_t ht
  exact ⟨ts, by rw [prOf_s (by simpa using hs)]; exact ht⟩

/-- All questions are there: what the function over premises captures. -/
theorem prem_made {ss : List ByteArray} {xs : List Value} {v : Value} {B base : Nat} {wr : World} (hs : ss.length ≤ 3) (hb : Boxed wr B 86 v)
    (hown : wr.ownsRow base 57 1 v ss.length xs) (hq : QsTo ss ss.length xs wr) : ∃ ts, prOf (ss.map bl) = some ts ∧ PremAt wr B ts := by
  obtain ⟨ts, ht⟩ := prOf_at_some hs fun k hk => by obtain ⟨t, _, h, _⟩ := hq k hk; exact ⟨t, h⟩
  have hl : ts.length = ss.length := by have := fsOf_len (prOf_of ht).2; simpa using this
  refine ⟨ts, ht, by omega, ?_⟩
  rcases hown.2 with ⟨rfl, h0⟩ | ⟨g, cap, cur, rfl, _⟩
  · exact ⟨none, 0, by rw [hl, h0]; exact hb.cell, .inl (List.length_eq_zero_iff.1 (by omega))⟩
  · refine ⟨some ⟨g, 0, none⟩, cap, by rw [hl]; exact hb.cell, .inr ⟨g, 0, rfl, fun i t hi => ?_⟩⟩
    have hlt : i < ss.length := by have := (List.getElem?_eq_some_iff.1 hi).1; omega
    obtain ⟨u, Q, h1, h2, h3⟩ := hq i hlt
    obtain ⟨u', h4, h5⟩ := fsOf_at (prOf_of ht).2 i (by simpa using hlt)
    rw [show (ss.map bl).getD i [] = bl (ss.getD i nilS) by simp [List.getD_eq_getElem?_getD, hlt]] at h5
    rw [h1] at h5
    cases h5
    rw [hi] at h4
    cases h4
    refine ⟨Q, ?_, h3.cell⟩
    rw [Nat.zero_add, World.ownsRow.cellAt hown i (by omega), h2]

theorem prem_long (a : Option Addr) (cap : Nat) (ss : List ByteArray) (hl : 3 < ss.length) (hm : ss.length ≤ maxLen) (w : World) :
    Calls Try.prog 39 #[.slice a ss.length cap] w (PremPost ss w) := by
  have e : Hid (prOf (ss.map bl) = none) := prOf_l (by simp; omega)
  unfold maxLen at hm
  go_enter Try.func39, Try.ntmps39
  go_wp2_with fail
  go_ret2
  exact ⟨grownBy_refl _ _, .inl ⟨e.out, rfl⟩⟩

set_option maxRecDepth 100000 in
set_option maxHeartbeats 4000000 in
theorem prem_short (a : Option Addr) (cap : Nat) (ss : List ByteArray) (hl : ss.length ≤ 3) (w : World) (h : StrsAt w a ss) :
    Calls Try.prog 39 #[.slice a ss.length cap] w (PremPost ss w) := by
  obtain ⟨i0, hi, hz0, hz1, hz2⟩ := info_parts infoQ
  have Hh := Lib.hid h
  clear h
  go_enter Try.func39, Try.ntmps39
  go_wp2_with fail
  go_loopw [15] (fun i wr => PrRel ss w i wr) (fun i _ => ss.length - (intOf i).toNat)
  case atStart => exact ⟨0, [], .slice none 0 0, by omega, rfl, Boxed.new w _ _, World.ownsRow_nil _ _ _ _, fun j hj => absurd hj (by omega), World.grownBy_alloc _ _ none⟩
  case round =>
    obtain ⟨k, xs, v, hk, rfl, hbox, hown, hq, hgr⟩ := hrel
    have Hq := Lib.hid hq
    clear hq
    by_cases hlt : k < ss.length
    · have hx2 := Hh.out.grown hgr
      rcases hx2.2 with h0 | ⟨bx, ox, rfl, hbx, hcx⟩
      · rw [h0] at hlt; simp at hlt
      have hc1 := hcx k hlt
      clear hx2 hcx hbx
      cases ho : fOf (bl (ss.getD k nilS)) with
      | none =>
        have e := Lib.hid (prOf_at_none hlt ho)
        have ct := tree_no (ss.getD k nilS) wr ho
        clear ho hbox hown
        generalize ss.getD k nilS = s at *
        go_wp2_with (go_at_call 56; refine ct.mono ?_; rintro e w2 ⟨u, hu, rfl, gx⟩)
        go_ret2
        exact ⟨grownBy_trans hgr gx, .inl ⟨e.out, rfl⟩⟩
      | some t =>
        have ct := tree_yes (ss.getD k nilS) wr ho
        have Ho := Lib.hid ho
        have hks := Lib.hid (rfl : ss.getD k nilS = ss.getD k nilS)
        clear ho hks
        obtain ⟨s, hs⟩ : ∃ s, ss.getD k nilS = s := ⟨_, rfl⟩
        rw [hs] at hc1 ct
        have Hs := Lib.hid hs
        clear hs
        go_wp2_with (go_at_call 56; refine ct.mono ?_; rintro e w2 ⟨rfl, gx⟩)
        clear ct hc1
        have hbox2 : Boxed w2 w.heap.size 86 v := hbox.kept gx (by simp)
        have hown2 := hown.kept gx (by cases v.ownBlock <;> simp)
        have hg2 := grownBy_trans hgr gx
        have hn : k + 1 ≤ maxLen := by unfold maxLen; omega
        have hby : (k + 1) * 8 ≤ 140737488355328 := by omega
        have lbx := hbox2.lt
        have nr : v.ownBlock ≠ some w.heap.size := fun e => hbox2.not_row (by decide) hown2 e.symm
        have cT : ∀ w : World, Calls Try.prog 46 #[.iface (nodeT t) (nodeP t)] w fun e w' => e = .returned (.func (.func 64) #[] #[.pointer (some ⟨w.heap.size, 0, none⟩)]) ∧ Boxed w' w.heap.size 65 (.iface (nodeT t) (nodeP t)) ∧ w.grownBy w' none ∧ w'.heap.size = w.heap.size + 1 := truth_box t
        have kp : ∀ V : World, w2.drew.grownBy V none → V.ownsRow w.heap.size 57 1 v k xs := fun V g => World.ownsRow.kept hown2.drew g (by cases v.ownBlock <;> simp)
        replace nr : some w.heap.size ≠ v.ownBlock := fun e => nr e.symm
        have hb : w2.drew.cell? ⟨w.heap.size, 0, none⟩ = some v ∧ w2.drew.frozen? ⟨w.heap.size, 0, none⟩ = false := ⟨hbox2.cell, hbox2.frozen⟩
        go_region_law (first | (go_simp; refine (cT _).mono ?_; rintro e V ⟨rfl, hbV, gy, sV⟩; have hcV := keepB hb gy; obtain ⟨hcV1, hcV2⟩ := hcV) | (refine step_append_lies _ (by rfl) _ _ _ (by rfl) w.heap.size 57 i0 _ 1 8 Try.underlying86 hi hz0 hz1 hz2 rfl (by omega) v k xs (by rfl) (by first | exact own_alloc (kp V gy).drew _ | exact (own_alloc (kp V gy) _).drew | exact own_alloc (kp V gy) _) ⟨w2.heap.size + 1, 0, none⟩ 1 1 [.func (.func 64) #[] #[.pointer (some ⟨w2.heap.size, 0, none⟩)]] (by rfl) (by rfl) (World.news_of_block (cs := #[.func (.func 64) #[] #[.pointer (some ⟨w2.heap.size, 0, none⟩)]]) (t := 57) (fr := (0, 0)) (by have hha := heap_alloc_new V (Obj.cells #[.func (.func 64) #[] #[.pointer (some ⟨w2.heap.size, 0, none⟩)]] 57); rw [sV] at hha; exact hha)) (by simp [Value.oneCell']) (by omega) hn hby (by have hgs := hg2.size; have hgt : w2.heap.size ≤ V.heap.size := gy.size; simp; omega) (w2.heap.size + 2) (by have hgt : V.heap.size = w2.heap.size + 1 := sV; simp; omega) ?_; intro gg cp w3 hown3 hgrow hat hlt3; have hc3 := keepC (keepB ⟨hcV1, hcV2⟩ (World.grownBy_alloc V _ none)) hgrow nr; obtain ⟨hc31, hc32⟩ := hc3))
        all_goals
          obtain ⟨r1, r2, r3, r4⟩ := pr_next hg2 hbox2 (Hq.out.grown gx) Ho.out hown2 (grownBy_trans (grownBy_drew (grownBy_refl w2 none)) gy) hbV hgrow hown3
          have R3 := Lib.hid r3
          clear r3 hown3 hgrow hbV gy hown2 hbox2 hown hbox
          go_wp2
          go_roundw
          case rel => exact ⟨k + 1, _, _, by omega, by go_num, r1, r2, R3.out, r4⟩
          case measure => simp [intOf]; omega
    · obtain rfl : k = ss.length := by omega
      obtain ⟨ts, hp, hP⟩ := prem_made hl hbox hown Hq.out
      have Hp := Lib.hid hp
      have HP := Lib.hid hP
      clear hp hP hbox hown
      go_wp2
      go_ret2
      exact ⟨hgr, .inr ⟨ts, _, Hp.out, HP.out, rfl⟩⟩

end Go.Proofs.Ytdofeahbgodopaa
