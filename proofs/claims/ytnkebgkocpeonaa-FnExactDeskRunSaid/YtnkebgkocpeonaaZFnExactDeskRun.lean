/-
  Joined out of the texts DRowD, DXD, DXM, DOp2, DOp3, DIDo, DRun, DXS, DWd, DWf: what each holds is told at its head.
-/
import Derived.Test.YtnkebgkocpeonaaDX8
import Derived.Test.YtnkebgkocpeonaaDOp
import Derived.Test.YtnkebgkocpeonaaDLay2
import Derived.Test.YtnkebgkocpeonaaDDo2
import Derived.Deep.RegionHeld3
import Derived.Deep.CutRange
import Derived.Test.YtnkebgkocpeonaaDX3
import Derived.Deep.DeepCutAuto

/-
  Rows of deeds: what lies in them; rows that a call made.
-/
namespace Go.Proofs.Ytnkebgkocpeonaa
open Go.RowKit

def nilDd : Dd := (0, 0, [])
/-- The cells of a row of deeds. -/
def ddC : List Dd → List Value
  | [] => []
  | x :: l => .int .i64 x.1 :: .int .i64 x.2.1 :: .string (bs x.2.2) :: ddC l
theorem ddC_len : ∀ l : List Dd, (ddC l).length = l.length * 3
  | [] => rfl
  | x :: l => by show (ddC l).length + 1 + 1 + 1 = (l.length + 1) * 3; rw [ddC_len l]; omega
theorem ddC_app : ∀ l m : List Dd, ddC (l ++ m) = ddC l ++ ddC m
  | [], m => rfl
  | x :: l, m => by show _ :: _ :: _ :: ddC (l ++ m) = _; rw [ddC_app l m]; rfl
theorem ddC_at : ∀ (l : List Dd) (i : Nat), i < l.length → (ddC l)[i * 3]? = some (.int .i64 (l.getD i nilDd).1) ∧ (ddC l)[i * 3 + 1]? = some (.int .i64 (l.getD i nilDd).2.1) ∧ (ddC l)[i * 3 + 2]? = some (.string (bs (l.getD i nilDd).2.2))
  | [], i, h => absurd h (by simp)
  | x :: l, 0, _ => ⟨rfl, rfl, rfl⟩
  | x :: l, i + 1, h => by
    have := ddC_at l i (by simpa using h)
    rw [show (i + 1) * 3 = i * 3 + 1 + 1 + 1 by omega]
    exact this
theorem ddC_one : ∀ (l : List Dd), ∀ u ∈ ddC l, u.oneCell' = true
  | [], u, h => absurd h (by simp [ddC])
  | x :: l, u, h => by
    rcases List.mem_cons.1 h with rfl | h
    · rfl
    · rcases List.mem_cons.1 h with rfl | h
      · rfl
      · rcases List.mem_cons.1 h with rfl | h
        · rfl
        · exact ddC_one l u h
theorem ddC_get {l : List Dd} {j : Nat} {u : Value} (h : (ddC l)[j]? = some u) : ∃ i, i < l.length ∧ ((j = i * 3 ∧ u = .int .i64 (l.getD i nilDd).1) ∨ (j = i * 3 + 1 ∧ u = .int .i64 (l.getD i nilDd).2.1) ∨ (j = i * 3 + 2 ∧ u = .string (bs (l.getD i nilDd).2.2))) := by
  have hj := (List.getElem?_eq_some_iff.1 h).1
  rw [ddC_len] at hj
  have hi : j / 3 < l.length := by omega
  have hc := ddC_at l (j / 3) hi
  refine ⟨j / 3, hi, ?_⟩
  have hm : j % 3 = 0 ∨ j % 3 = 1 ∨ j % 3 = 2 := by omega
  rcases hm with e | e | e
  · have ej : j = j / 3 * 3 := by omega
    rw [ej] at h
    have := h.symm.trans hc.1
    exact .inl ⟨ej, by simpa using this⟩
  · have ej : j = j / 3 * 3 + 1 := by omega
    rw [ej] at h
    have := h.symm.trans hc.2.1
    exact .inr (.inl ⟨ej, by simpa using this⟩)
  · have ej : j = j / 3 * 3 + 2 := by omega
    rw [ej] at h
    have := h.symm.trans hc.2.2
    exact .inr (.inr ⟨ej, by simpa using this⟩)

/-- A row of deeds as it can be read. -/
def DdsAt (w : World) (a : Option Addr) (xs : List Dd) : Prop :=
  xs.length ≤ maxLen ∧ (xs = [] ∨ ∃ b off, a = some ⟨b, off, none⟩ ∧ b < w.heap.size ∧ ∀ i, i < xs.length → w.cell? ⟨b, off + i * 3, none⟩ = some (.int .i64 (xs.getD i nilDd).1) ∧ w.cell? ⟨b, off + i * 3 + 1, none⟩ = some (.int .i64 (xs.getD i nilDd).2.1) ∧ w.cell? ⟨b, off + i * 3 + 2, none⟩ = some (.string (bs (xs.getD i nilDd).2.2)))
theorem DdsAt.kept {w w' : World} {a : Option Addr} {xs : List Dd} {row : Option Nat} (h : DdsAt w a xs) (hg : w.grownBy w' row) (hne : ∀ x, a = some x → some x.block ≠ row) : DdsAt w' a xs := by
  refine ⟨h.1, ?_⟩
  rcases h.2 with h | ⟨b, off, ha, hb, hc⟩
  · exact .inl h
  · exact .inr ⟨b, off, ha, Nat.lt_of_lt_of_le hb hg.size, fun i hi => ⟨(World.cell?_of_block (w := w) (a := ⟨b, off + i * 3, none⟩) (hg.block b hb (hne _ ha))).trans (hc i hi).1, (World.cell?_of_block (w := w) (a := ⟨b, off + i * 3 + 1, none⟩) (hg.block b hb (hne _ ha))).trans (hc i hi).2.1, (World.cell?_of_block (w := w) (a := ⟨b, off + i * 3 + 2, none⟩) (hg.block b hb (hne _ ha))).trans (hc i hi).2.2⟩⟩
theorem DdsAt.grown {w w' : World} {a : Option Addr} {xs : List Dd} (h : DdsAt w a xs) (hg : w.grownBy w' none) : DdsAt w' a xs := h.kept hg (by simp)
theorem DdsAt.nil (w : World) (a : Option Addr) : DdsAt w a [] := ⟨by simp, .inl rfl⟩
theorem DdsAt.take {w : World} {a : Option Addr} {xs : List Dd} (h : DdsAt w a xs) (n : Nat) : DdsAt w a (xs.take n) := by
  refine ⟨Nat.le_trans (by rw [List.length_take]; omega) h.1, ?_⟩
  rcases h.2 with h | ⟨b, off, ha, hb, hc⟩
  · exact .inl (by rw [h, List.take_nil])
  · refine .inr ⟨b, off, ha, hb, fun i hi => ?_⟩
    rw [List.length_take] at hi
    have e : (xs.take n).getD i nilDd = xs.getD i nilDd := by
      rw [List.getD_eq_getElem?_getD, List.getD_eq_getElem?_getD, List.getElem?_take, if_pos (by omega)]
    rw [e]
    exact hc i (by omega)
theorem DdsAt.drop {w : World} {b off : Nat} {xs : List Dd} (h : DdsAt w (some ⟨b, off, none⟩) xs) (n : Nat) : DdsAt w (some ⟨b, off + n * 3, none⟩) (xs.drop n) := by
  refine ⟨Nat.le_trans (by rw [List.length_drop]; omega) h.1, ?_⟩
  rcases h.2 with h | ⟨b', off', ha, hb, hc⟩
  · exact .inl (by rw [h, List.drop_nil])
  · cases ha
    refine .inr ⟨b, off + n * 3, rfl, hb, fun i hi => ?_⟩
    rw [List.length_drop] at hi
    have e : (xs.drop n).getD i nilDd = xs.getD (n + i) nilDd := by
      rw [List.getD_eq_getElem?_getD, List.getD_eq_getElem?_getD, List.getElem?_drop]
    have k := hc (n + i) (by omega)
    rw [show off + (n + i) * 3 = off + n * 3 + i * 3 by omega] at k
    rw [e]
    exact k

/-- A row of deeds that the call owns, from its block's first cell on. -/
def Own3 (w : World) (base : Nat) (a : Option Addr) (cap : Nat) (xs : List Dd) : Prop :=
  w.ownsRow base 39 3 (.slice a xs.length cap) xs.length (ddC xs)
theorem own3_shape {w : World} {base n : Nat} {v : Value} {zs : List Dd} (h : w.ownsRow base 39 3 v n (ddC zs)) : ∃ a cap, v = .slice a zs.length cap ∧ n = zs.length ∧ Own3 w base a cap zs := by
  have hl := h.1
  rw [ddC_len] at hl
  obtain rfl : n = zs.length := by omega
  rcases h.2 with ⟨rfl, h0⟩ | ⟨g, cap, cur, rfl, h1⟩
  · exact ⟨none, 0, by rw [h0], rfl, by unfold Own3; rw [h0]; rw [h0] at h; exact h⟩
  · exact ⟨some ⟨g, 0, none⟩, cap, rfl, rfl, h⟩
theorem Own3.nil (w : World) (base : Nat) : Own3 w base none 0 [] := World.ownsRow_nil _ _ _ _
theorem Own3.made (w : World) : Own3 (w.alloc (.cells #[] 39)) w.heap.size (some ⟨w.heap.size, 0, none⟩) 0 [] := World.ownsRow_made w #[] 0 (Nat.le_refl _) (Nat.zero_le _) rfl
theorem Own3.kept {w w' : World} {base : Nat} {a : Option Addr} {cap : Nat} {zs : List Dd} (h : Own3 w base a cap zs) (hg : w.grownBy w' none) : Own3 w' base a cap zs :=
  World.ownsRow.kept h hg (by cases (Value.slice a zs.length cap).ownBlock <;> simp)
theorem Own3.past {w w' : World} {base b : Nat} {a : Option Addr} {cap : Nat} {zs : List Dd} (h : Own3 w base a cap zs) (hg : w.grownBy w' (some b)) (hb : b < base) : Own3 w' base a cap zs :=
  World.ownsRow.kept h hg (.inr fun e => by have := World.ownsRow.lt h _ e; omega)
theorem Own3.bare {w : World} {base : Nat} {a : Option Addr} {cap : Nat} {zs : List Dd} (h : Own3 w base a cap zs) : a = none → cap = 0 := by
  intro e
  subst e
  rcases h.2 with ⟨h0, _⟩ | ⟨g, c, cur, he, _⟩
  · simp only [Value.slice.injEq] at h0; exact h0.2.2
  · simp at he
theorem Own3.room {w : World} {base : Nat} {a : Option Addr} {cap : Nat} {zs : List Dd} (h : Own3 w base a cap zs) : zs.length ≤ cap ∧ cap ≤ maxLen := by
  rcases h.2 with ⟨h0, h1⟩ | ⟨g, c, cur, he, _, _, hn, hc, _⟩
  · simp only [Value.slice.injEq] at h0
    rw [h1, h0.2.2]; exact ⟨Nat.le_refl _, Nat.zero_le _⟩
  · simp only [Value.slice.injEq, true_and] at he
    rw [he.2]; exact ⟨hn, hc⟩
theorem Own3.mono {w : World} {base base' : Nat} {a : Option Addr} {cap : Nat} {zs : List Dd} (h : Own3 w base a cap zs) (hb : base' ≤ base) : Own3 w base' a cap zs := by
  refine ⟨h.1, ?_⟩
  rcases h.2 with h | ⟨g, c, cur, h1, h2, h3⟩
  · exact .inl h
  · exact .inr ⟨g, c, cur, h1, Nat.le_trans hb h2, h3⟩
theorem Own3.curs {w : World} {base : Nat} {a : Option Addr} {cap : Nat} {zs : List Dd} (h : Own3 w base a cap zs) : zs = [] ∨ ∃ (g : Nat) (cur : Array Value), a = some ⟨g, 0, none⟩ ∧ base ≤ g ∧ w.heap[g]? = some (.cells cur 39 (0, 0)) ∧ ∀ i, i < zs.length → cur[i * 3]? = some (.int .i64 (zs.getD i nilDd).1) ∧ cur[i * 3 + 1]? = some (.int .i64 (zs.getD i nilDd).2.1) ∧ cur[i * 3 + 2]? = some (.string (bs (zs.getD i nilDd).2.2)) := by
  rcases h.2 with ⟨_, h0⟩ | ⟨g, c, cur, he, hb, hg, hnc, hcm, hcs, htake⟩
  · exact .inl (List.length_eq_zero_iff.1 h0)
  · simp only [Value.slice.injEq, true_and] at he
    obtain ⟨rfl, rfl⟩ := he
    refine .inr ⟨g, cur, rfl, hb, hg, fun i hi => ?_⟩
    have k := ddC_at zs i hi
    rw [← htake, List.getElem?_take, if_pos (by omega), List.getElem?_take, if_pos (by omega), List.getElem?_take, if_pos (by omega)] at k
    simpa using k
theorem Own3.at {w : World} {base : Nat} {a : Option Addr} {cap : Nat} {zs : List Dd} (h : Own3 w base a cap zs) : DdsAt w a zs := by
  refine ⟨Nat.le_trans h.room.1 h.room.2, ?_⟩
  rcases h.curs with h | ⟨g, cur, ha, hb, hg, hc⟩
  · exact .inl h
  · refine .inr ⟨g, 0, ha, (Array.getElem?_eq_some_iff.1 hg).1, fun i hi => ?_⟩
    rw [cell_of_row w g _ cur _ (0, 0) hg, cell_of_row w g _ cur _ (0, 0) hg, cell_of_row w g _ cur _ (0, 0) hg, Nat.zero_add]
    exact hc i hi

theorem infoDd : (Try.prog.info? 39).map (fun i => (i.zero, i.size, i.bytes)) = some (some (.agg #[.int .i64 0, .int .i64 0, .string ⟨#[]⟩]), 3, 32) := by kernel_rfl

def DdsPost (xs : List Dd) (w : World) (e : Ending) (w' : World) : Prop :=
  ∃ a cap, e = .returned (.slice a xs.length cap) ∧ Own3 w' w.heap.size a cap xs ∧ w.grownBy w' none
theorem grow_own3 {a b c : World} {base : Nat} {v : Value} {n : Nat} {xs : List Value} {e : TypeId} (h : a.grownBy b none) (ho : b.ownsRow base e 3 v n xs) (hb : a.heap.size ≤ base) (k : b.grownBy c v.ownBlock) : a.grownBy c none :=
  ⟨k.os.trans h.os, k.tape.trans h.tape, k.output.trans h.output, Nat.le_trans h.size k.size, fun i hi _ => by
    refine (k.block i (Nat.lt_of_lt_of_le hi h.size) fun e => ?_).trans (h.block i hi (by simp))
    have := World.ownsRow.lt ho i e.symm
    omega⟩

end Go.Proofs.Ytnkebgkocpeonaa

/-
  Rows of deeds counted, copied and compared: the laws' szDeedS, toDeedS, eqDeedS.
-/
namespace Go.Proofs.Ytnkebgkocpeonaa
open Go.RowKit

theorem getDd_mem {xs : List Dd} {k : Nat} (h : k < xs.length) : xs.getD k nilDd ∈ xs := by
  rw [List.getD_eq_getElem?_getD, List.getElem?_eq_getElem h]
  exact List.getElem_mem h
/-- What szDeedS answers with: something below 0, or a number, few deeds and short texts. -/
def SzDPost (xs : List Dd) (w : World) (e : Ending) (w' : World) : Prop := ∃ v : Int, e = .returned (.int .i64 v) ∧ (v < 0 ∨ (0 ≤ v ∧ v ≤ 1048576 ∧ xs.length ≤ 1048576 ∧ ∀ x ∈ xs, x.2.2.length ≤ 1048576)) ∧ w.grownBy w' none
def SzDd (xs : List Dd) (w : World) (i left : Value) (wr : World) : Prop := ∃ (k : Nat) (l : Int), k ≤ xs.length ∧ i = .int .i64 k ∧ left = .int .i64 l ∧ 0 ≤ l ∧ l ≤ 1048576 ∧ (∀ j, j < k → (xs.getD j nilDd).2.2.length ≤ 1048576) ∧ w.grownBy wr none

set_option maxRecDepth 8000 in
set_option maxHeartbeats 2000000 in
theorem szDeedS_any (left : Int) (a : Option Addr) (cap : Nat) (xs : List Dd) (w : World) (hl : 0 ≤ left ∧ left ≤ 1048576) (h : DdsAt w a xs) (hz : ∀ x ∈ xs, x.2.2.length ≤ maxLen) :
    Calls Try.prog 41 #[.slice a xs.length cap, .int .i64 left] w (SzDPost xs w) := by
  have hm := h.1
  unfold maxLen at hm
  have hw2 : wrap64 (left - (xs.length : Int)) = left - (xs.length : Int) := by unfold wrap64; omega
  have H := Lib.hid h
  have HZ := Lib.hid hz
  clear h hz
  by_cases hle : (xs.length : Int) ≤ left
  · go_enter Try.func41, Try.ntmps41
    have hp : 0 ≤ left - (xs.length : Int) := by omega
    go_wp2
    go_loopw [1, 5] (fun l i wr => SzDd xs w i l wr) (fun _ i _ => xs.length - (intOf i).toNat)
    case atStart => exact ⟨0, left - xs.length, by omega, rfl, rfl, by omega, by omega, fun j hj => absurd hj (by omega), grownBy_refl _ _⟩
    case round =>
      obtain ⟨k, l, hk, rfl, rfl, hl0, hl1, hsm, hgr⟩ := hrel
      have HS := Lib.hid hsm
      clear hsm
      by_cases hlt : k < xs.length
      · have hx2 := H.out.grown hgr
        rcases hx2.2 with h0 | ⟨bx, ox, rfl, hbx, hcx⟩
        · rw [h0] at hlt; simp at hlt
        obtain ⟨c0, c1, c2⟩ := hcx k hlt
        have hzk : (xs.getD k nilDd).2.2.length ≤ maxLen := HZ.out _ (getDd_mem hlt)
        clear hx2 hcx hbx
        have hq3 : Hid ((xs.getD k nilDd).2.2.length ≤ 1048576 → ∀ j, j < k + 1 → (xs.getD j nilDd).2.2.length ≤ 1048576) := Lib.hid fun h j hj => by
          by_cases e : j = k
          · rw [e]; exact h
          · exact HS.out j (by omega)
        generalize xs.getD k nilDd = q at *
        have cs := fun w => szDeed_any q.1 q.2.1 l (bs q.2.2) w ⟨hl0, hl1⟩ (by rw [bs_size]; exact hzk)
        have Hgr := Lib.hid hgr
        clear hgr
        by_cases hq : ((bs q.2.2).size : Int) ≤ l
        · simp only [if_pos hq] at cs
          have hq0 : 0 ≤ l - ((bs q.2.2).size : Int) := by omega
          have hqq := Lib.hid (hq3.out (by rw [bs_size] at hq; omega))
          clear hq3
          go_wp2_with (first | (go_at_call 39; refine (cs _).mono ?_; rintro e w' ⟨rfl, hg⟩))
          go_roundw
          case rel => exact ⟨k + 1, l - ((bs q.2.2).size : Int), by omega, by go_num, rfl, hq0, by omega, hqq.out, grownBy_trans Hgr.out hg⟩
          case measure => simp [intOf]; omega
        · simp only [if_neg hq] at cs
          clear hq3
          go_wp2_with (first | (go_at_call 39; refine (cs _).mono ?_; rintro e w' ⟨rfl, hg⟩))
          go_ret
          exact ⟨_, rfl, .inl (by decide), grownBy_trans Hgr.out hg⟩
      · obtain rfl : k = xs.length := by omega
        have Hgr := Lib.hid hgr
        clear hgr
        go_wp2
        go_ret
        refine ⟨l, rfl, .inr ⟨hl0, hl1, by omega, fun x hx => ?_⟩, Hgr.out⟩
        obtain ⟨j, hj, rfl⟩ := List.mem_iff_getElem.1 hx
        have := HS.out j hj
        rwa [List.getD_eq_getElem?_getD, List.getElem?_eq_getElem hj] at this
  · go_enter Try.func41, Try.ntmps41
    go_wp2
    go_ret
    exact ⟨_, rfl, .inl (by omega), grownBy_refl _ _⟩

def CpDd (g : Nat) (xs : List Dd) (w : World) (i : Value) (wr : World) : Prop :=
  ∃ (k : Nat) (vs : List Value), k ≤ xs.length ∧ i = .int .i64 k ∧ wr.ownsRow w.heap.size 39 3 (.slice (some ⟨g, 0, none⟩) xs.length xs.length) xs.length vs ∧ (∀ j, j < k → vs[j * 3]? = some (.int .i64 (xs.getD j nilDd).1) ∧ vs[j * 3 + 1]? = some (.int .i64 (xs.getD j nilDd).2.1) ∧ vs[j * 3 + 2]? = some (.string (bs (xs.getD j nilDd).2.2))) ∧ w.grownBy wr none
theorem own3_copied {g : Nat} {xs : List Dd} {w wr : World} {vs : List Value} (h : wr.ownsRow w.heap.size 39 3 (.slice (some ⟨g, 0, none⟩) xs.length xs.length) xs.length vs) (hx : ∀ j, j < xs.length → vs[j * 3]? = some (.int .i64 (xs.getD j nilDd).1) ∧ vs[j * 3 + 1]? = some (.int .i64 (xs.getD j nilDd).2.1) ∧ vs[j * 3 + 2]? = some (.string (bs (xs.getD j nilDd).2.2))) : Own3 wr w.heap.size (some ⟨g, 0, none⟩) xs.length xs := by
  have e : vs = ddC xs := by
    apply List.ext_getElem?
    intro j
    by_cases hj : j < xs.length * 3
    · have hk : j / 3 < xs.length := by omega
      have k1 := hx _ hk
      have k2 := ddC_at xs _ hk
      have hm : j % 3 = 0 ∨ j % 3 = 1 ∨ j % 3 = 2 := by omega
      rcases hm with q | q | q
      · rw [show j = j / 3 * 3 by omega, k1.1, k2.1]
      · rw [show j = j / 3 * 3 + 1 by omega, k1.2.1, k2.2.1]
      · rw [show j = j / 3 * 3 + 2 by omega, k1.2.2, k2.2.2]
    · rw [List.getElem?_eq_none (by rw [h.1]; omega), List.getElem?_eq_none (by rw [ddC_len]; omega)]
  unfold Own3
  rw [← e]
  exact h
theorem three_set {vs : List Value} {xs : List Dd} {k : Nat} (hl : vs.length = xs.length * 3) (hk : k < xs.length) (hxs : ∀ j, j < k → vs[j * 3]? = some (.int .i64 (xs.getD j nilDd).1) ∧ vs[j * 3 + 1]? = some (.int .i64 (xs.getD j nilDd).2.1) ∧ vs[j * 3 + 2]? = some (.string (bs (xs.getD j nilDd).2.2))) (m n : Int) (t : ByteArray) (hm : m = (xs.getD k nilDd).1) (hn : n = (xs.getD k nilDd).2.1) (ht : t = bs (xs.getD k nilDd).2.2) :
    ∀ j, j < k + 1 → (((vs.set (k * 3) (.int .i64 m)).set (k * 3 + 1) (.int .i64 n)).set (k * 3 + 2) (.string t))[j * 3]? = some (.int .i64 (xs.getD j nilDd).1) ∧ (((vs.set (k * 3) (.int .i64 m)).set (k * 3 + 1) (.int .i64 n)).set (k * 3 + 2) (.string t))[j * 3 + 1]? = some (.int .i64 (xs.getD j nilDd).2.1) ∧ (((vs.set (k * 3) (.int .i64 m)).set (k * 3 + 1) (.int .i64 n)).set (k * 3 + 2) (.string t))[j * 3 + 2]? = some (.string (bs (xs.getD j nilDd).2.2)) := by
  subst hm hn ht
  intro j hj
  by_cases e : j = k
  · subst e
    refine ⟨?_, ?_, ?_⟩
    · rw [List.getElem?_set_ne (by omega), List.getElem?_set_ne (by omega), List.getElem?_set_self (by omega)]
    · rw [List.getElem?_set_ne (by omega), List.getElem?_set_self (by rw [List.length_set]; omega)]
    · rw [List.getElem?_set_self (by rw [List.length_set, List.length_set]; omega)]
  · refine ⟨?_, ?_, ?_⟩
    · rw [List.getElem?_set_ne (by omega), List.getElem?_set_ne (by omega), List.getElem?_set_ne (by omega)]; exact (hxs j (by omega)).1
    · rw [List.getElem?_set_ne (by omega), List.getElem?_set_ne (by omega), List.getElem?_set_ne (by omega)]; exact (hxs j (by omega)).2.1
    · rw [List.getElem?_set_ne (by omega), List.getElem?_set_ne (by omega), List.getElem?_set_ne (by omega)]; exact (hxs j (by omega)).2.2

set_option maxRecDepth 8000 in
set_option maxHeartbeats 2000000 in
theorem toDeedS_any (a : Option Addr) (cap : Nat) (xs : List Dd) (hn : xs.length ≤ 100000000) (w : World) (h : DdsAt w a xs) :
    Calls Try.prog 42 #[.slice a xs.length cap] w (DdsPost xs w) := by
  obtain ⟨i0, hi, hz0, hz1, hz2⟩ := info_parts infoDd
  have Hh := Lib.hid h
  clear h
  go_enter Try.func42, Try.ntmps42
  go_wp2_with (at_make; refine wpList_make_full _ rfl _ _ 44 rfl w.heap.size 39 i0 (.agg #[.int .i64 0, .int .i64 0, .string ⟨#[]⟩]) 3 Try.underlying44 hi hz0 hz1 .i64 .i64 _ _ xs.length rfl rfl rfl rfl ?b2 ?b3 (Nat.le_refl _) ?_)
  case b2 => rw [hz2]; omega
  case b3 => unfold maxLen; omega
  intro w0 hown0 hgrow0
  go_wp2
  go_loopw [4] (fun i wr => CpDd w.heap.size xs w i wr) (fun i _ => xs.length - (intOf i).toNat)
  case atStart => exact ⟨0, _, by omega, rfl, hown0, fun j hj => absurd hj (by omega), hgrow0⟩
  case round =>
    obtain ⟨k, vs, hk, rfl, hown, hxs, hgr⟩ := hrel
    by_cases hlt : k < xs.length
    · have hx2 := Hh.out.grown hgr
      rcases hx2.2 with h0 | ⟨bx, ox, rfl, hbx, hcx⟩
      · rw [h0] at hlt; simp at hlt
      obtain ⟨c0, c1, c2⟩ := hcx k hlt
      have ct := fun w => toDeed_any (xs.getD k nilDd).1 (xs.getD k nilDd).2.1 (bs (xs.getD k nilDd).2.2) w
      have hxl := hown.1
      have HO := Lib.hid hown
      have HG := Lib.hid hgr
      have hnw := Lib.hid (three_set hown.1 hlt hxs _ _ _ rfl rfl rfl)
      clear hown hgr hx2 hcx hbx hxs
      generalize (xs.getD k nilDd).1 = n at *
      generalize (xs.getD k nilDd).2.1 = m at *
      generalize bs (xs.getD k nilDd).2.2 = t at *
      go_wp2_with (first | (go_at_call 40; refine (ct _).mono ?_; rintro e w2 ⟨rfl, hg⟩; have ho2 := HO.out.kept hg (by simp [Value.ownBlock]); have hst := Lib.hid (World.ownsRow.stored ho2 (k * 3) (.int .i64 n)); have hsu := Lib.hid (World.ownsRow.stored hst.out.1 (k * 3 + 1) (.int .i64 m)); have hsv := Lib.hid (World.ownsRow.stored hsu.out.1 (k * 3 + 2) (.string t)); have hgg := Lib.hid (grow_own3 (grow_own3 (grow_own3 (grownBy_trans HG.out hg) ho2 (Nat.le_refl _) hst.out.2) hst.out.1 (Nat.le_refl _) hsu.out.2) hsu.out.1 (Nat.le_refl _) hsv.out.2); have f0 := World.ownsRow.frozenAt ho2 (k * 3); have f1 := World.ownsRow.frozenAt ho2 (k * 3 + 1); have f2 := World.ownsRow.frozenAt ho2 (k * 3 + 2); have e0 := World.ownsRow.cellAt ho2 (k * 3) (by omega); have e1 := World.ownsRow.cellAt ho2 (k * 3 + 1) (by omega); have e2 := World.ownsRow.cellAt ho2 (k * 3 + 2) (by omega); rw [List.getElem?_eq_getElem (by omega)] at e0 e1 e2; clear ho2))
      go_roundw
      case rel => exact ⟨k + 1, _, by omega, by go_num, hsv.out.1, hnw.out, hgg.out⟩
      case measure => simp [intOf]; omega
    · obtain rfl : k = xs.length := by omega
      have hs := Lib.hid (own3_copied hown hxs)
      have Hg := Lib.hid hgr
      clear hown hxs hgr
      go_wp2
      go_ret
      exact ⟨_, _, rfl, hs.out, Hg.out⟩

set_option maxHeartbeats 1000000 in
theorem eqDeed_yes (n k : Int) (t : ByteArray) (w : World) :
    Calls Try.prog 76 #[.agg #[.int .i64 n, .int .i64 k, .string t], .agg #[.int .i64 n, .int .i64 k, .string t]] w fun e w' => e = .returned (.bool true) ∧ w.grownBy w' none := by
  go_enter Try.func76, Try.ntmps76
  go_wp2
  go_ret
  exact ⟨rfl, grownBy_trans (World.grownBy_alloc _ _ none) (World.grownBy_alloc _ _ none)⟩

def EqRelD (xs : List Dd) (w : World) (i : Value) (wr : World) : Prop := ∃ k : Nat, k ≤ xs.length ∧ i = .int .i64 k ∧ w.grownBy wr none

set_option maxRecDepth 8000 in
set_option maxHeartbeats 2000000 in
theorem eqDeedS_yes (a b : Option Addr) (ca cb : Nat) (xs : List Dd) (w : World) (hx : DdsAt w a xs) (hy : DdsAt w b xs) :
    Calls Try.prog 43 #[.slice a xs.length ca, .slice b xs.length cb] w fun e w' => e = .returned (.bool true) ∧ w.grownBy w' none := by
  have hm := hx.1
  unfold maxLen at hm
  have HX := Lib.hid hx
  have HY := Lib.hid hy
  clear hx hy
  go_enter Try.func43, Try.ntmps43
  go_wp2
  go_loopw [5] (fun i wr => EqRelD xs w i wr) (fun i _ => xs.length - (intOf i).toNat)
  case atStart => exact ⟨0, by omega, rfl, grownBy_refl _ _⟩
  case round =>
    obtain ⟨k, hk, rfl, hgr⟩ := hrel
    have Hgr := Lib.hid hgr
    clear hgr
    by_cases hlt : k < xs.length
    · rcases (HX.out.grown Hgr.out).2 with h0 | ⟨bx, ox, rfl, _, hcx⟩
      · rw [h0] at hlt; simp at hlt
      rcases (HY.out.grown Hgr.out).2 with h0 | ⟨by', oy, rfl, _, hcy⟩
      · rw [h0] at hlt; simp at hlt
      obtain ⟨x0, x1, x2⟩ := hcx k hlt
      obtain ⟨y0, y1, y2⟩ := hcy k hlt
      clear hcx hcy
      generalize xs.getD k nilDd = q at *
      go_wp2_with fail
      go_region_with (go_at_call 76; refine (eqDeed_yes _ _ _ _).mono ?_; rintro e w' ⟨rfl, hg⟩)
      all_goals go_wp2_with fail
      all_goals go_roundw
      all_goals first | (simp [intOf]; omega) | exact ⟨k + 1, by omega, by go_num, grownBy_trans Hgr.out (drew_grown hg)⟩ | exact ⟨k + 1, by omega, by go_num, grownBy_trans Hgr.out (grownBy_trans (grownBy_drewN (grownBy_refl _ _) _) hg)⟩
    · obtain rfl : k = xs.length := by omega
      go_wp2
      go_ret
      exact ⟨rfl, Hgr.out⟩

end Go.Proofs.Ytnkebgkocpeonaa

/-
  Rows of deeds marked, and marked rows of deeds read again.
-/
namespace Go.Proofs.Ytnkebgkocpeonaa
open Go.RowKit

/-- The deeds that the laws write into a row, from the mark k on. -/
def mkQ (k : Nat) (i : Nat) : Dd := (((k + 3 * i : Nat) : Int), ((k + 3 * i + 1 : Nat) : Int), mtx (k + 3 * i + 2))
def mkRow3 (k n : Nat) : List Dd := (List.range n).map (mkQ k)
theorem mkRow3_len (k n : Nat) : (mkRow3 k n).length = n := by simp [mkRow3]
theorem mkRow3_at (k n i : Nat) (h : i < n) : (mkRow3 k n).getD i nilDd = mkQ k i := by simp [mkRow3, List.getD_eq_getElem?_getD, h]
/-- The row while it is marked: the first i are. -/
def MkCur3 (cur : Array Value) (off k n i : Nat) : Prop :=
  (∀ j, j < i → cur[off + j * 3]? = some (.int .i64 (mkQ k j).1) ∧ cur[off + j * 3 + 1]? = some (.int .i64 (mkQ k j).2.1) ∧ cur[off + j * 3 + 2]? = some (.string (bs (mkQ k j).2.2))) ∧ ∀ j, i ≤ j → j < n → ∃ u v x, cur[off + j * 3]? = some u ∧ cur[off + j * 3 + 1]? = some v ∧ cur[off + j * 3 + 2]? = some x
theorem MkCur3.next {cur : Array Value} {off k n i : Nat} (h : MkCur3 cur off k n i) (hi : i < n) : MkCur3 (((cur.setIfInBounds (off + i * 3) (.int .i64 (mkQ k i).1)).setIfInBounds (off + i * 3 + 1) (.int .i64 (mkQ k i).2.1)).setIfInBounds (off + i * 3 + 2) (.string (bs (mkQ k i).2.2))) off k n (i + 1) := by
  obtain ⟨u, v, x, hu, hv, hx⟩ := h.2 i (Nat.le_refl _) hi
  have su := (Array.getElem?_eq_some_iff.1 hu).1
  have sv := (Array.getElem?_eq_some_iff.1 hv).1
  have sx := (Array.getElem?_eq_some_iff.1 hx).1
  refine ⟨fun j hj => ?_, fun j hj hn => ?_⟩
  · by_cases e : j = i
    · subst e
      refine ⟨?_, ?_, ?_⟩
      · rw [Array.getElem?_setIfInBounds_ne (by omega), Array.getElem?_setIfInBounds_ne (by omega), Array.getElem?_setIfInBounds_self_of_lt su]
      · rw [Array.getElem?_setIfInBounds_ne (by omega), Array.getElem?_setIfInBounds_self_of_lt (by simpa using sv)]
      · rw [Array.getElem?_setIfInBounds_self_of_lt (by simpa using sx)]
    · have := h.1 j (by omega)
      refine ⟨?_, ?_, ?_⟩
      · rw [Array.getElem?_setIfInBounds_ne (by omega), Array.getElem?_setIfInBounds_ne (by omega), Array.getElem?_setIfInBounds_ne (by omega)]; exact this.1
      · rw [Array.getElem?_setIfInBounds_ne (by omega), Array.getElem?_setIfInBounds_ne (by omega), Array.getElem?_setIfInBounds_ne (by omega)]; exact this.2.1
      · rw [Array.getElem?_setIfInBounds_ne (by omega), Array.getElem?_setIfInBounds_ne (by omega), Array.getElem?_setIfInBounds_ne (by omega)]; exact this.2.2
  · obtain ⟨x, y, z, h1, h2, h3⟩ := h.2 j (by omega) hn
    refine ⟨x, y, z, ?_, ?_, ?_⟩
    · rw [Array.getElem?_setIfInBounds_ne (by omega), Array.getElem?_setIfInBounds_ne (by omega), Array.getElem?_setIfInBounds_ne (by omega)]; exact h1
    · rw [Array.getElem?_setIfInBounds_ne (by omega), Array.getElem?_setIfInBounds_ne (by omega), Array.getElem?_setIfInBounds_ne (by omega)]; exact h2
    · rw [Array.getElem?_setIfInBounds_ne (by omega), Array.getElem?_setIfInBounds_ne (by omega), Array.getElem?_setIfInBounds_ne (by omega)]; exact h3

def MkRel3 (k n g off : Nat) (w : World) (kv iv : Value) (wr : World) : Prop :=
  ∃ (i : Nat) (cur : Array Value), i ≤ n ∧ kv = .int .i64 ((k + 3 * i : Nat) : Int) ∧ iv = .int .i64 i ∧ wr.heap[g]? = some (.cells cur 39 (0, 0)) ∧ MkCur3 cur off k n i ∧ w.grownBy wr (some g)
theorem heap_put3 {W : World} {g j : Nat} {cur : Array Value} {v : Value} (h : W.heap[g]? = some (.cells cur 39 (0, 0))) : (W.setCell ⟨g, j, none⟩ v).heap[g]? = some (.cells (cur.setIfInBounds j v) 39 (0, 0)) := CellsAt.set (T := 39) h j v

set_option maxRecDepth 8000 in
set_option maxHeartbeats 2000000 in
theorem markDeedS_at (k n g off cap : Nat) (cur0 : Array Value) (hk : 0 < k ∧ k ≤ 10000000) (hn : n ≤ 10000000) (w : World) (hg : w.heap[g]? = some (.cells cur0 39 (0, 0))) (hm : MkCur3 cur0 off k n 0) :
    Calls Try.prog 44 #[.slice (some ⟨g, off, none⟩) n cap, .int .i64 k] w fun e w' => ∃ cur, e = .returned (.int .i64 ((k + 3 * n : Nat) : Int)) ∧ w'.heap[g]? = some (.cells cur 39 (0, 0)) ∧ MkCur3 cur off k n n ∧ w.grownBy w' (some g) := by
  have HG := Lib.hid hg
  have HM := Lib.hid hm
  clear hg hm
  go_enter Try.func44, Try.ntmps44
  go_wp2
  go_loopw [1, 5] (fun kv iv wr => MkRel3 k n g off w kv iv wr) (fun _ iv _ => n - (intOf iv).toNat)
  case atStart => exact ⟨0, cur0, by omega, by simp, rfl, HG.out, HM.out, grownBy_refl _ _⟩
  case round =>
    obtain ⟨i, cur, hi, rfl, rfl, hh, hc, hgr⟩ := hrel
    by_cases hlt : i < n
    · obtain ⟨u, v, x, hu, hv, hx⟩ := hc.2 i (Nat.le_refl _) hlt
      have c0 : wr.cell? ⟨g, off + i * 3, none⟩ = some u := by rw [cell_of_row wr g _ cur _ (0, 0) hh]; exact hu
      have f0 : wr.frozen? ⟨g, off + i * 3, none⟩ = false := frozen_of_row wr g _ cur _ hh
      have hnx := Lib.hid (hc.next hlt)
      obtain ⟨K, hK⟩ : ∃ K, K = k + 3 * i := ⟨_, rfl⟩
      have hp : Hid (mkQ k i = ((K : Int), ((K + 1 : Nat) : Int), mtx (K + 2))) := by rw [hK]; rfl
      have hKs : 0 < K ∧ K ≤ 100000000 - 2 := by omega
      have cm : ∀ w, Calls Try.prog 77 #[.int .i64 ((K : Int) + 1 + 1)] w fun e w' => e = .returned (.string (bs (mtx (K + 2)))) ∧ w.grownBy w' none := fun w => markText_any (K + 2) (by omega) (by omega) w
      have h1 := heap_put3 (j := off + i * 3) (v := .int .i64 (K : Int)) hh
      have hv1 : (cur.setIfInBounds (off + i * 3) (.int .i64 (K : Int)))[off + i * 3 + 1]? = some v := by rw [Array.getElem?_setIfInBounds_ne (by omega)]; exact hv
      have d1 : (wr.setCell ⟨g, off + i * 3, none⟩ (.int .i64 (K : Int))).cell? ⟨g, off + i * 3 + 1, none⟩ = some v := by rw [cell_of_row _ g _ _ _ (0, 0) h1]; exact hv1
      have f1 : (wr.setCell ⟨g, off + i * 3, none⟩ (.int .i64 (K : Int))).frozen? ⟨g, off + i * 3 + 1, none⟩ = false := frozen_of_row _ g _ _ _ h1
      have h2 := Lib.hid (heap_put3 (j := off + i * 3 + 1) (v := .int .i64 ((K : Int) + 1)) h1)
      have hx1 : ((cur.setIfInBounds (off + i * 3) (.int .i64 (K : Int))).setIfInBounds (off + i * 3 + 1) (.int .i64 ((K : Int) + 1)))[off + i * 3 + 2]? = some x := by rw [Array.getElem?_setIfInBounds_ne (by omega), Array.getElem?_setIfInBounds_ne (by omega)]; exact hx
      have HX1 := Lib.hid hx1
      have G1 := Lib.hid (grownBy_trans (grownBy_trans hgr (grownBy_set wr g (off + i * 3) (.int .i64 (K : Int)))) (grownBy_set _ g (off + i * 3 + 1) (.int .i64 ((K : Int) + 1))))
      rw [← hK]
      have HK := Lib.hid hK
      clear hh hc hgr hu hv hv1 hK hx hx1 h1
      go_wp2_with (first | (go_at_call 77; refine (cm _).mono ?_; rintro e w2 ⟨rfl, hg2⟩; have h3 : w2.heap[g]? = _ := (hg2.block g (Array.getElem?_eq_some_iff.1 h2.out).1 (by simp)).trans h2.out; have c2 : w2.cell? ⟨g, off + i * 3 + 2, none⟩ = some x := (by rw [cell_of_row w2 g _ _ _ (0, 0) h3]; exact HX1.out); have f2 : w2.frozen? ⟨g, off + i * 3 + 2, none⟩ = false := frozen_of_row w2 g _ _ _ h3; have h4 := Lib.hid (heap_put3 (j := off + i * 3 + 2) (v := .string (bs (mtx (K + 2)))) h3); have G3 := Lib.hid (grownBy_trans G1.out (grownBy_trans (grown_any hg2) (grownBy_set w2 g (off + i * 3 + 2) (.string (bs (mtx (K + 2))))))); clear h3 hg2))
      go_roundw
      case rel =>
        have e : ((K : Int) + 1 + 1 + 1) = ((k + 3 * (i + 1) : Nat) : Int) := by have := HK.out; omega
        refine ⟨i + 1, _, by omega, by rw [← e], by go_num, h4.out, ?_, G3.out⟩
        have q := hnx.out
        rw [hp.out] at q
        exact q
      case measure => simp [intOf]; omega
    · obtain rfl : i = n := by omega
      have R := Lib.hid (show ∃ cur, wr.heap[g]? = some (.cells cur 39 (0, 0)) ∧ MkCur3 cur off k i i ∧ w.grownBy wr (some g) from ⟨cur, hh, hc, hgr⟩)
      clear hh hc hgr
      go_wp2
      go_ret
      obtain ⟨cur, h1, h2, h3⟩ := R.out
      exact ⟨cur, rfl, h1, h2, h3⟩

set_option maxHeartbeats 1000000 in
theorem markDeedS_zero (a : Option Addr) (cap : Nat) (k : Int) (w : World) :
    Calls Try.prog 44 #[.slice a 0 cap, .int .i64 k] w fun e w' => e = .returned (.int .i64 k) ∧ w = w' := by
  go_enter Try.func44, Try.ntmps44
  go_wp2
  go_loopw [1, 5] (fun kv iv wr => kv = .int .i64 k ∧ iv = .int .i64 0 ∧ w = wr) (fun _ _ _ => 0)
  case atStart => exact ⟨rfl, rfl, rfl⟩
  case round =>
    obtain ⟨rfl, rfl, rfl⟩ := hrel
    go_wp2
    go_ret
    exact ⟨rfl, rfl⟩

/-- What is left of a row of deeds that was marked; nothing else changed but its own block. -/
def Marked3 (a : Option Addr) (k n : Nat) (w w' : World) : Prop := DdsAt w' a (mkRow3 k n) ∧ ∃ row : Option Nat, (∀ g, row = some g → 0 < n ∧ ∃ x, a = some x ∧ x.block = g) ∧ w.grownBy w' row

theorem markDeedS_any (k base cap : Nat) (a : Option Addr) (xs : List Dd) (hk : 0 < k ∧ k ≤ 10000000) (hn : xs.length ≤ 10000000) (W : World) (h : Own3 W base a cap xs) :
    Calls Try.prog 44 #[.slice a xs.length cap, .int .i64 k] W fun e w' => e = .returned (.int .i64 ((k + 3 * xs.length : Nat) : Int)) ∧ Marked3 a k xs.length W w' := by
  by_cases h0 : xs = []
  · subst h0
    refine (markDeedS_zero a cap k W).mono ?_
    rintro e w' ⟨rfl, rfl⟩
    exact ⟨by simp, DdsAt.nil _ _, none, by simp, grownBy_refl _ _⟩
  · obtain ⟨g, cur, rfl, hb, hg, hc⟩ := h.curs.resolve_left h0
    have hpos : 0 < xs.length := List.length_pos_iff.2 h0
    refine (markDeedS_at k xs.length g 0 cap cur hk hn W hg ⟨fun j hj => absurd hj (by omega), fun j _ hj => ⟨_, _, _, by rw [Nat.zero_add]; exact (hc j hj).1, by rw [Nat.zero_add]; exact (hc j hj).2.1, by rw [Nat.zero_add]; exact (hc j hj).2.2⟩⟩).mono ?_
    rintro e w' ⟨cur', rfl, h1, h2, h3⟩
    refine ⟨rfl, ⟨by rw [mkRow3_len]; exact Nat.le_trans h.room.1 h.room.2, .inr ⟨g, 0, rfl, (Array.getElem?_eq_some_iff.1 h1).1, fun i hi => ?_⟩⟩, some g, fun q hq => ?_, h3⟩
    · rw [mkRow3_len] at hi
      rw [mkRow3_at k _ i hi, cell_of_row w' g _ cur' _ (0, 0) h1, cell_of_row w' g _ cur' _ (0, 0) h1, cell_of_row w' g _ cur' _ (0, 0) h1]
      exact h2.1 i hi
    · cases hq
      exact ⟨hpos, _, rfl, rfl⟩

end Go.Proofs.Ytnkebgkocpeonaa

/-
  A deed that came in, opened to its cells. No function is named.
-/
namespace Go.Proofs.Ytnkebgkocpeonaa
open Go.RowKit Go.ChangeShapes Go.WideShapes Go.Deep Go.Joins

theorem open_deed {H : Type} {enc : TypeId × Value → H} {P : Program} {w : World} {base : Nat} {spare : Nat → Bool} {held : Bool} {r : Reach} {b0 : Nat} {t : TypeId} {f0 f1 f2 : Field}
    (hs : P.underlying t = some (.struct #[f0, f1, f2])) (o0 : f0.offset = 0) (o1 : f1.offset = 1) (o2 : f2.offset = 2) (c0 : P.cellsOf f0.type = 1) (c1 : P.cellsOf f1.type = 1) (c2 : P.cellsOf f2.type = 1) (ct : P.cellsOf t = 3)
    (i0 : P.underlying f0.type = some (.int .i64)) (i1 : P.underlying f1.type = some (.int .i64)) (i2 : P.underlying f2.type = some .string)
    {v : Value} {d : DataW H} {p : List MemPlace} (hv : Value.okWide P w r b0 t v) (h : DataW.Trod enc P w base spare held t v d p) :
    ∃ (n k : Int) (s : ByteArray), v = .agg #[.int .i64 n, .int .i64 k, .string s] ∧ (Lit.int .i64 n).wf = true ∧ s.size ≤ maxLen := by
  obtain ⟨cs, rfl, hc⟩ := okWide_struct hs hv
  obtain ⟨u, x, y, rfl⟩ : ∃ u x y, cs = #[u, x, y] := by
    rw [ct] at hc
    match cs, hc with
    | ⟨[u, x, y]⟩, _ => exact ⟨u, x, y, rfl⟩
  obtain ⟨fuel, hf⟩ := h
  obtain ⟨zs, n, _, _, _, hl, hg⟩ := DataW.trod_struct hs hf
  have q0 := hg 0 f0 rfl
  have q1 := hg 1 f1 rfl
  have q2 := hg 2 f2 rfl
  rw [o0, c0] at q0
  rw [o1, c1] at q1
  rw [o2, c2] at q2
  obtain ⟨z0, z1, z2, rfl⟩ : ∃ z0 z1 z2, zs = [z0, z1, z2] := by
    match zs, hl with
    | [z0, z1, z2], _ => exact ⟨z0, z1, z2, rfl⟩
  obtain ⟨k, e0, _, hk⟩ := DataW.trod_int (x := z0) i0 (by simpa [Value.cells] using q0)
  obtain ⟨j, e1, _, _⟩ := DataW.trod_int (x := z1) i1 (by simpa [Value.cells] using q1)
  obtain ⟨s, e2, _, hs'⟩ := DataW.trod_string (x := z2) i2 (by simpa [Value.cells] using q2)
  simp at e0 e1 e2
  subst e0 e1 e2
  exact ⟨k, j, s, rfl, hk, hs'⟩

end Go.Proofs.Ytnkebgkocpeonaa

/-
  A row of deeds that came in, opened to its cells. No function is named.
-/
namespace Go.Proofs.Ytnkebgkocpeonaa
open Go.RowKit Go.ChangeShapes Go.WideShapes Go.Deep Go.Joins

section
variable {H : Type} {enc : TypeId × Value → H} {P : Program} {w : World} {base : Nat} {spare : Nat → Bool} {held : Bool}
/-- What a struct of two numbers and a text must be. -/
structure DeedT (P : Program) (t : TypeId) (f0 f1 f2 : Field) : Prop where
  str : P.underlying t = some (.struct #[f0, f1, f2])
  o0 : f0.offset = 0
  o1 : f1.offset = 1
  o2 : f2.offset = 2
  c0 : P.cellsOf f0.type = 1
  c1 : P.cellsOf f1.type = 1
  c2 : P.cellsOf f2.type = 1
  ct : P.cellsOf t = 3
  i0 : P.underlying f0.type = some (.int .i64)
  i1 : P.underlying f1.type = some (.int .i64)
  i2 : P.underlying f2.type = some .string
theorem DeedT.read {t : TypeId} {f0 f1 f2 : Field} (T : DeedT P t f0 f1 f2) {fuel : Nat} {u v y : Value} {x : DataW H × List MemPlace} (h : DataW.trod enc P w base spare held fuel t [u, v, y] = some x) : ∃ (n k : Int) (s : ByteArray), u = .int .i64 n ∧ v = .int .i64 k ∧ y = .string s ∧ s.size ≤ maxLen := by
  obtain ⟨zs, n, _, _, _, hl, hg⟩ := DataW.trod_struct T.str h
  have q0 := hg 0 f0 rfl
  have q1 := hg 1 f1 rfl
  have q2 := hg 2 f2 rfl
  rw [T.o0, T.c0] at q0
  rw [T.o1, T.c1] at q1
  rw [T.o2, T.c2] at q2
  obtain ⟨z0, z1, z2, rfl⟩ : ∃ z0 z1 z2, zs = [z0, z1, z2] := by
    match zs, hl with
    | [z0, z1, z2], _ => exact ⟨z0, z1, z2, rfl⟩
  obtain ⟨k, e0, _, _⟩ := DataW.trod_int (x := z0) T.i0 (by simpa using q0)
  obtain ⟨j, e1, _, _⟩ := DataW.trod_int (x := z1) T.i1 (by simpa using q1)
  obtain ⟨s, e2, _, hs'⟩ := DataW.trod_string (x := z2) T.i2 (by simpa using q2)
  simp at e0 e1 e2
  exact ⟨k, j, s, e0, e1, e2, hs'⟩
theorem dds_of {a : Addr} {len : Nat} (hm : len ≤ maxLen) (h : ∀ i, i < len → ∃ (n k : Int) (s : ByteArray), w.cell? (a.add (i * 3)) = some (.int .i64 n) ∧ w.cell? (a.add (i * 3 + 1)) = some (.int .i64 k) ∧ w.cell? (a.add (i * 3 + 2)) = some (.string s) ∧ s.size ≤ maxLen) :
    ∃ xs : List Dd, xs.length = len ∧ DdsAt w (some a) xs ∧ ∀ x ∈ xs, x.2.2.length ≤ maxLen := by
  by_cases h0 : len = 0
  · subst h0
    exact ⟨[], rfl, DdsAt.nil _ _, by simp⟩
  obtain ⟨b, off, spot⟩ := a
  have hsp : spot = none := by
    obtain ⟨n, k, s, c0, _⟩ := h 0 (by omega)
    simpa [Addr.add] using World.cell?_spot c0
  subst hsp
  have h' : ∀ i, i < len → ∃ (n k : Int) (s : ByteArray), w.cell? ⟨b, off + i * 3, none⟩ = some (.int .i64 n) ∧ w.cell? ⟨b, off + i * 3 + 1, none⟩ = some (.int .i64 k) ∧ w.cell? ⟨b, off + i * 3 + 2, none⟩ = some (.string s) ∧ s.size ≤ maxLen := by
    intro i hi
    obtain ⟨n, k, s, c0, c1, c2, hs⟩ := h i hi
    rw [add_none] at c0 c1 c2
    exact ⟨n, k, s, c0, by rw [Nat.add_assoc]; exact c1, by rw [Nat.add_assoc]; exact c2, hs⟩
  have hch : ∃ f : Nat → Dd, ∀ i, i < len → w.cell? ⟨b, off + i * 3, none⟩ = some (.int .i64 (f i).1) ∧ w.cell? ⟨b, off + i * 3 + 1, none⟩ = some (.int .i64 (f i).2.1) ∧ w.cell? ⟨b, off + i * 3 + 2, none⟩ = some (.string (bs (f i).2.2)) ∧ (f i).2.2.length ≤ maxLen := by
    refine ⟨fun i => if hi : i < len then ((h' i hi).choose, (h' i hi).choose_spec.choose, bl (h' i hi).choose_spec.choose_spec.choose) else nilDd, fun i hi => ?_⟩
    have q := (h' i hi).choose_spec.choose_spec.choose_spec
    simp only [dif_pos hi]
    refine ⟨q.1, q.2.1, q.2.2.1, ?_⟩
    show (bl _).length ≤ maxLen
    rw [← bl_size]; exact q.2.2.2
  obtain ⟨f, hf⟩ := hch
  have hg : ∀ i, i < len → ((List.range len).map f).getD i nilDd = f i := fun i hi => by simp [List.getD_eq_getElem?_getD, hi]
  refine ⟨(List.range len).map f, by simp, ⟨by simpa using hm, .inr ⟨b, off, rfl, ?_, fun i hi => ?_⟩⟩, fun x hx => ?_⟩
  · have := (hf 0 (by omega)).1
    exact World.block_lt_of_cell? w _ this
  · have hi' : i < len := by simpa using hi
    rw [hg i hi']
    exact ⟨(hf i hi').1, (hf i hi').2.1, (hf i hi').2.2.1⟩
  · obtain ⟨i, hi, rfl⟩ := List.mem_map.1 hx
    exact (hf i (List.mem_range.1 hi)).2.2.2
theorem open_deeds {r : Reach} {b0 : Nat} {t e : TypeId} {f0 f1 f2 : Field} (T : DeedT P e f0 f1 f2) (ht : P.underlying t = some (.slice e)) {c : Value} {d : DataW H} {p : List MemPlace} (hv : Value.okWide P w r b0 t c) (h : DataW.Trod enc P w base spare held t c d p) :
    ∃ (a : Option Addr) (cap : Nat) (xs : List Dd), c = .slice a xs.length cap ∧ DdsAt w a xs ∧ (a = none → cap = 0) ∧ ∀ x ∈ xs, x.2.2.length ≤ maxLen := by
  obtain ⟨a0, l0, c0, rfl⟩ := okWide_slice ht hv
  obtain ⟨fuel, hf⟩ := h
  rcases open_slice ht hf with ⟨h0, _⟩ | ⟨a, len, cap, m, n, D, Pl, hcs, _, hl, hm, hmm, _, hi⟩
  · simp [Value.cells] at h0
    exact ⟨none, 0, [], by rw [h0.1, h0.2.1, h0.2.2]; rfl, DdsAt.nil _ _, fun _ => rfl, by simp⟩
  · simp [Value.cells] at hcs
    have hlm : len ≤ m := by rw [hmm]; split <;> omega
    have hc : ∀ i, i < len → ∃ (n k : Int) (s : ByteArray), w.cell? (a.add (i * 3)) = some (.int .i64 n) ∧ w.cell? (a.add (i * 3 + 1)) = some (.int .i64 k) ∧ w.cell? (a.add (i * 3 + 2)) = some (.string s) ∧ s.size ≤ maxLen := by
      intro i hil
      obtain ⟨cs', hcc, hts⟩ := hi i (by omega)
      rw [T.ct] at hcc
      obtain ⟨_, hcl, hat⟩ := World.cells?_some hcc
      obtain ⟨u, v, y, rfl⟩ : ∃ u v y, cs' = [u, v, y] := by
        match cs', hcl with
        | [u, v, y], _ => exact ⟨u, v, y, rfl⟩
      obtain ⟨k, j, s, rfl, rfl, rfl, hs⟩ := T.read hts
      have q0 := hat 0 (by omega)
      have q1 := hat 1 (by omega)
      have q2 := hat 2 (by omega)
      refine ⟨k, j, s, by rw [add_add] at q0; simpa using q0, by rw [add_add] at q1; simpa using q1, by rw [add_add] at q2; simpa using q2, hs⟩
    obtain ⟨xs, rfl, hx, hz⟩ := dds_of (by omega) hc
    exact ⟨some a, cap, xs, by rw [hcs.1, hcs.2.1, hcs.2.2], hx, (by simp), hz⟩
end

end Go.Proofs.Ytnkebgkocpeonaa

/-
  What a deed makes of a desk: impl's DeskDo.
-/
namespace Go.Proofs.Ytnkebgkocpeonaa
open Go.RowKit

theorem do_post' {w w' : World} {base : Nat} {a : Option Addr} {r : Dk × Bool} {cap : Nat} {u v s : Value} {b : Bool} (hg : w.grownBy w' none) (ho : OwnL w' base a r.1.2) (hb : w.heap.size + 3 ≤ base) (h0 : a = none → cap = 0) (hu : u = .int .i64 r.1.1.1) (hv : v = .string (bs r.1.1.2)) (hs : s = .slice a r.1.2.length cap) (hr : b = r.2) :
    DoPost r w (.returned (.tuple #[.agg #[u, v, s], .bool b])) (((w'.setCell ⟨w.heap.size + 1 + 1, 0, none⟩ u).setCell ⟨w.heap.size + 1 + 1, 1, none⟩ v).setCell ⟨w.heap.size + 1 + 1, 2, none⟩ s) := by
  obtain ⟨⟨x, xs⟩, b'⟩ := r
  change b = b' at hr
  subst hr
  exact do_post hg (ho.mono hb) h0 hu hv hs

set_option maxRecDepth 8000 in
set_option maxHeartbeats 1000000 in
theorem ido_bad (x : Ld) (xs : List Ld) (dk dn : Int) (dt : List UInt8) (a : Option Addr) (cap : Nat) (w : World) (h : LdsAt w a xs) (hd : dkB (x, xs) = false) :
    Calls Try.prog 26 #[dkV (x, xs) a cap, ddV (dk, dn, dt)] w (DoPost (nilDk, false) w) := by
  have hb := box3_new w (x, xs) a cap dk dn (bs dt)
  have g3 := made3 w (.cells #[.int .i64 x.1, .string (bs x.2), .slice a xs.length cap] 31) (.cells #[.int .i64 dk, .int .i64 dn, .string (bs dt)] 39) (.cells zeroDk 31)
  have hz := size3 w (.cells #[.int .i64 x.1, .string (bs x.2), .slice a xs.length cap] 31) (.cells #[.int .i64 dk, .int .i64 dn, .string (bs dt)] 39) (.cells zeroDk 31)
  have ck := idesk_any (x, xs) a cap _ (h.grown g3)
  rw [hd] at ck
  have HB := Lib.hid hb
  have G3 := Lib.hid g3
  have HZ := Lib.hid hz
  clear h hb g3 hz
  unfold dkV at *
  unfold ddV
  go_enter Try.func26, Try.ntmps26
  go_wp2_with (first | (go_at_call 18; refine ck.mono ?_; rintro e w1 ⟨rfl, hg⟩; obtain ⟨⟨d0, d1, d2⟩, ⟨e0, e1, e2⟩, ⟨r0, r1, r2⟩, f0, f1, f2⟩ := (HB.out.grown hg).facts))
  have F := (HB.out.grown hg).2.2.put3 (.int .i64 0) (.string ⟨#[]⟩) (.slice none 0 0)
  have P := do_post (x := nilLd) (b := false) (u := .int .i64 0) (v := .string ⟨#[]⟩) (s := .slice none 0 0) (cap := 0) (xs := []) (grownBy_trans G3.out hg) (OwnL.nil _ _ none) (fun _ => rfl) rfl rfl rfl
  exact bodyPost_ret (v := .tuple #[.agg #[.int .i64 0, .string ⟨#[]⟩, .slice none 0 0], .bool false]) (resDkB (b := .bool false) rfl _ rfl rfl F) rfl P

set_option maxRecDepth 8000 in
set_option maxHeartbeats 1000000 in
theorem ido_names (x : Ld) (xs : List Ld) (dk dn : Int) (dt : List UInt8) (a : Option Addr) (cap : Nat) (w : World) (h : LdsAt w a xs) (h0 : a = none → cap = 0) (hd : dkB (x, xs) = true) (hn : namesB (dk, dn, dt) = false) :
    Calls Try.prog 26 #[dkV (x, xs) a cap, ddV (dk, dn, dt)] w (DoPost ((x, xs), false) w) := by
  have hl := (dkB_of hd).2.2
  change xs.length ≤ 8 at hl
  have hb := box3_new w (x, xs) a cap dk dn (bs dt)
  have g3 := made3 w (.cells #[.int .i64 x.1, .string (bs x.2), .slice a xs.length cap] 31) (.cells #[.int .i64 dk, .int .i64 dn, .string (bs dt)] 39) (.cells zeroDk 31)
  have hz := size3 w (.cells #[.int .i64 x.1, .string (bs x.2), .slice a xs.length cap] 31) (.cells #[.int .i64 dk, .int .i64 dn, .string (bs dt)] 39) (.cells zeroDk 31)
  have ck := idesk_any (x, xs) a cap _ (h.grown g3)
  rw [hd] at ck
  have HB := Lib.hid hb
  have G3 := Lib.hid g3
  have HZ := Lib.hid hz
  have cn := names_any (dk, dn, dt)
  rw [hn] at cn
  have cc := fun w1 (hg : World.grownBy _ w1 none) => copied_any (x, xs) a cap w1 ((h.grown g3).grown hg) h0 (by show xs.length ≤ 9; omega)
  clear h hb g3 hz h0 hd hn
  unfold dkV at *
  unfold ddV at *
  go_enter Try.func26, Try.ntmps26
  go_wp2_with (first | (go_at_call 18; refine ck.mono ?_; rintro e w1 ⟨rfl, hg⟩; obtain ⟨⟨d0, d1, d2⟩, ⟨e0, e1, e2⟩, ⟨r0, r1, r2⟩, f0, f1, f2⟩ := (HB.out.grown hg).facts) | (go_at_call 58; refine (cn _).mono ?_; rintro e w2 ⟨rfl, hg2⟩; obtain ⟨⟨d0, d1, d2⟩, ⟨e0, e1, e2⟩, ⟨r0, r1, r2⟩, f0, f1, f2⟩ := ((HB.out.grown hg).grown hg2).facts) | (go_at_call 59; refine (cc _ (grownBy_trans hg hg2)).mono ?_; rintro e w3 ⟨a', cap', rfl, ho, hg3⟩; obtain ⟨⟨d0, d1, d2⟩, ⟨e0, e1, e2⟩, ⟨r0, r1, r2⟩, f0, f1, f2⟩ := (((HB.out.grown hg).grown hg2).grown hg3).facts))
  have F := (((HB.out.grown hg).grown hg2).grown hg3).2.2.put3 (.int .i64 x.1) (.string (bs x.2)) (.slice a' xs.length cap')
  have P := do_post (x := x) (xs := xs) (b := false) (grownBy_trans (grownBy_trans (grownBy_trans G3.out hg) hg2) hg3) (ho.l.mono (by have := hg.size; have := hg2.size; have := HZ.out; omega)) ho.bare rfl rfl rfl
  exact bodyPost_ret (v := .tuple #[.agg #[.int .i64 x.1, .string (bs x.2), .slice a' xs.length cap'], .bool false]) (resDkB (b := .bool false) rfl _ rfl rfl F) rfl P

set_option maxRecDepth 8000 in
set_option maxHeartbeats 1000000 in
theorem ido_back (x : Ld) (xs : List Ld) (dk dn : Int) (dt : List UInt8) (a : Option Addr) (cap : Nat) (w : World) (h : LdsAt w a xs) (r : Dk × Bool) (hk : dk = 6) (hd : dkB (x, xs) = true) (hn : namesB (dk, dn, dt) = true)
    (cb : ∀ w1, LdsAt w1 a xs → Calls Try.prog 60 #[.agg #[.int .i64 x.1, .string (bs x.2), .slice a xs.length cap]] w1 (DoPost r w1)) :
    Calls Try.prog 26 #[dkV (x, xs) a cap, ddV (dk, dn, dt)] w (DoPost r w) := by
  have hb := box3_new w (x, xs) a cap dk dn (bs dt)
  have g3 := made3 w (.cells #[.int .i64 x.1, .string (bs x.2), .slice a xs.length cap] 31) (.cells #[.int .i64 dk, .int .i64 dn, .string (bs dt)] 39) (.cells zeroDk 31)
  have hz := size3 w (.cells #[.int .i64 x.1, .string (bs x.2), .slice a xs.length cap] 31) (.cells #[.int .i64 dk, .int .i64 dn, .string (bs dt)] 39) (.cells zeroDk 31)
  have ck := idesk_any (x, xs) a cap _ (h.grown g3)
  rw [hd] at ck
  have HB := Lib.hid hb
  have G3 := Lib.hid g3
  have HZ := Lib.hid hz
  have cn := names_any (dk, dn, dt)
  rw [hn] at cn
  have cc := fun w1 (hg : World.grownBy _ w1 none) => cb w1 ((h.grown g3).grown hg)
  clear h hb g3 hz hd hn cb
  subst hk
  unfold dkV at *
  unfold ddV at *
  obtain ⟨⟨⟨rm, rs⟩, rl⟩, rb⟩ := r
  unfold DoPost dkV at cc
  go_enter Try.func26, Try.ntmps26
  go_wp2_with (first | (go_at_call 18; refine ck.mono ?_; rintro e w1 ⟨rfl, hg⟩; obtain ⟨⟨d0, d1, d2⟩, ⟨e0, e1, e2⟩, ⟨r0, r1, r2⟩, f0, f1, f2⟩ := (HB.out.grown hg).facts) | (go_at_call 58; refine (cn _).mono ?_; rintro e w2 ⟨rfl, hg2⟩; obtain ⟨⟨d0, d1, d2⟩, ⟨e0, e1, e2⟩, ⟨r0, r1, r2⟩, f0, f1, f2⟩ := ((HB.out.grown hg).grown hg2).facts) | (go_at_call 60; refine (cc _ (grownBy_trans hg hg2)).mono ?_; rintro e w3 ⟨a', cap', rfl, ho, h0', hg3⟩; obtain ⟨⟨d0, d1, d2⟩, ⟨e0, e1, e2⟩, ⟨r0, r1, r2⟩, f0, f1, f2⟩ := (((HB.out.grown hg).grown hg2).grown hg3).facts))
  have F := (((HB.out.grown hg).grown hg2).grown hg3).2.2.put3 (.int .i64 rm) (.string (bs rs)) (.slice a' rl.length cap')
  have P := do_post (x := (rm, rs)) (xs := rl) (b := rb) (grownBy_trans (grownBy_trans (grownBy_trans G3.out hg) hg2) hg3) (ho.mono (by have := hg.size; have := hg2.size; have := HZ.out; omega)) h0' rfl rfl rfl
  exact bodyPost_ret (v := .tuple #[.agg #[.int .i64 rm, .string (bs rs), .slice a' rl.length cap'], .bool rb]) (resDkB (b := .bool rb) rfl _ rfl rfl F) rfl P

set_option maxRecDepth 8000 in
set_option maxHeartbeats 1000000 in
theorem ido_lay (x : Ld) (xs : List Ld) (dk dn : Int) (dt : List UInt8) (a : Option Addr) (cap : Nat) (w : World) (h : LdsAt w a xs) (h0 : a = none → cap = 0) (hk : dk ≠ 6) (hd : dkB (x, xs) = true) (hn : namesB (dk, dn, dt) = true) (ht : dt.length ≤ 4000000) (y : Ld) (hy : y = aft x (dk, dn, dt)) (r : Dk × Bool) (hr : r = if ldB y = true ∧ y ≠ x then ((y, capP (xs ++ [x])), true) else ((x, xs), false)) :
    Calls Try.prog 26 #[dkV (x, xs) a cap, ddV (dk, dn, dt)] w (DoPost r w) := by
  have hl := (dkB_of hd).2.2
  have hx : x.2.length ≤ 60 := isF_len (ldB_of (dkB_of hd).2.1).2
  change xs.length ≤ 8 at hl
  have hb := box3_new w (x, xs) a cap dk dn (bs dt)
  have g3 := made3 w (.cells #[.int .i64 x.1, .string (bs x.2), .slice a xs.length cap] 31) (.cells #[.int .i64 dk, .int .i64 dn, .string (bs dt)] 39) (.cells zeroDk 31)
  have hz := size3 w (.cells #[.int .i64 x.1, .string (bs x.2), .slice a xs.length cap] 31) (.cells #[.int .i64 dk, .int .i64 dn, .string (bs dt)] 39) (.cells zeroDk 31)
  have ck := idesk_any (x, xs) a cap _ (h.grown g3)
  rw [hd] at ck
  have HB := Lib.hid hb
  have G3 := Lib.hid g3
  have HZ := Lib.hid hz
  have cn := names_any (dk, dn, dt)
  rw [hn] at cn
  have ca := aft_any x (dk, dn, dt) hx ht
  unfold AftPost at ca
  rw [← hy] at ca
  have cc := fun w1 (hg : World.grownBy _ w1 none) => lay_any x y xs a cap w1 ((h.grown g3).grown hg) h0 hl
  rw [← hr] at cc
  have hk6 : (dk == 6) = false := beq_false_of_ne hk
  clear h hb g3 hz hd hn hk hx ht hy hr h0
  unfold dkV at *
  unfold ddV at *
  unfold ldV at *
  obtain ⟨m, s⟩ := x
  obtain ⟨k, u⟩ := y
  obtain ⟨⟨⟨rm, rs⟩, rl⟩, rb⟩ := r
  unfold DoPost dkV at cc
  go_enter Try.func26, Try.ntmps26
  go_wp2_with (first | (go_at_call 18; refine ck.mono ?_; rintro e w1 ⟨rfl, hg⟩; obtain ⟨⟨d0, d1, d2⟩, ⟨e0, e1, e2⟩, ⟨r0, r1, r2⟩, f0, f1, f2⟩ := (HB.out.grown hg).facts) | (go_at_call 58; refine (cn _).mono ?_; rintro e w2 ⟨rfl, hg2⟩; obtain ⟨⟨d0, d1, d2⟩, ⟨e0, e1, e2⟩, ⟨r0, r1, r2⟩, f0, f1, f2⟩ := ((HB.out.grown hg).grown hg2).facts))
  have W2 := Lib.hid ((HB.out.grown hg).grown hg2)
  have CC : ∀ w3, w2.grownBy w3 none → _ := fun w3 hg3 => cc w3 (grownBy_trans (grownBy_trans hg hg2) hg3)
  have g02 := Lib.hid (grownBy_trans (grownBy_trans G3.out hg) hg2)
  have hs2 := Lib.hid (show w.heap.size + 3 ≤ w2.heap.size by have := hg.size; have := hg2.size; have := HZ.out; omega)
  clear cc hg hg2
  go_region_with (first | (go_at_call 62; refine (ca _).mono ?_; rintro e w3 ⟨rfl, hg3⟩; obtain ⟨⟨d0, d1, d2⟩, ⟨e0, e1, e2⟩, ⟨r0, r1, r2⟩, f0, f1, f2⟩ := (W2.out.grown (drew_grown hg3)).facts) | (go_at_call 61; refine (CC _ (drew_grown hg3)).mono ?_; rintro e w4 ⟨a', cap', rfl, ho, h0', hg4⟩; obtain ⟨⟨d0, d1, d2⟩, ⟨e0, e1, e2⟩, ⟨r0, r1, r2⟩, f0, f1, f2⟩ := ((W2.out.grown (drew_grown hg3)).grown hg4).facts))
  all_goals go_wp2
  all_goals
    have F := ((W2.out.grown (drew_grown hg3)).grown hg4).2.2.put3 (.int .i64 rm) (.string (bs rs)) (.slice a' rl.length cap')
    have P := do_post (x := (rm, rs)) (xs := rl) (b := rb) (grownBy_trans (grownBy_trans g02.out (drew_grown hg3)) hg4) (ho.mono (by have := hs2.out; have := (drew_grown hg3).size; omega)) h0' rfl rfl rfl
    exact bodyPost_ret (v := .tuple #[.agg #[.int .i64 rm, .string (bs rs), .slice a' rl.length cap'], .bool rb]) (resDkB (b := .bool rb) rfl _ rfl rfl F) rfl P

/-- What a deed makes of any desk. -/
theorem ido_any (d : Dk) (D : Dd) (a : Option Addr) (cap : Nat) (w : World) (h : LdsAt w a d.2) (h0 : a = none → cap = 0) (ht : D.2.2.length ≤ 4000000) :
    Calls Try.prog 26 #[dkV d a cap, ddV D] w (DoPost (doR d D) w) := by
  obtain ⟨x, xs⟩ := d
  obtain ⟨k, n, t⟩ := D
  cases hd : dkB (x, xs)
  · rw [doR_no hd]; exact ido_bad x xs k n t a cap w h hd
  have hl := (dkB_of hd).2.2
  change xs.length ≤ 8 at hl
  cases hn : namesB (k, n, t)
  · obtain ⟨h6, hw⟩ := names_no (x := x) hn
    rw [doR_none hd (doD_none (d := (x, xs)) h6 hw)]
    exact ido_names x xs k n t a cap w h h0 hd hn
  by_cases h6 : k = 6
  · have hD : ((k, n, t) : Dd) = (6, 0, []) := by
      subst h6
      unfold namesB at hn
      simp at hn
      rw [hn.1, hn.2]
    have hr : doR (x, xs) (k, n, t) = doR (x, xs) (6, 0, []) := by rw [hD]
    rw [hr]
    refine ido_back x xs k n t a cap w h _ h6 hd hn fun w1 hw1 => ?_
    obtain ⟨m, s⟩ := x
    cases hp : xs.getLast? with
    | some p =>
      rw [doR_some hd (doD_back (d := ((m, s), xs)) hp)]
      obtain ⟨ys, rfl⟩ : ∃ ys, xs = ys ++ [p] := List.getLast?_eq_some_iff.1 hp
      have hL : (ys ++ [p]).length = ys.length + 1 := by simp
      show Calls _ _ _ _ (DoPost ((p, (ys ++ [p]).dropLast), true) w1)
      rw [List.dropLast_concat, hL]
      exact back_some m s p ys a cap w1 hw1 h0 (by omega)
    | none =>
      have hx0 : xs = [] := List.getLast?_eq_none_iff.1 hp
      rw [doR_none hd (doD_back0 (d := ((m, s), xs)) hx0)]
      subst hx0
      exact back_none m s a cap w1 h0
  · refine ido_lay x xs k n t a cap w h h0 h6 hd hn ht _ rfl _ ?_
    have e := aft_new (x := x) (a := (k, n, t)) (dkB_of hd).2.1 hn h6
    have hne : ((k, n, t) : Dd) ≠ (6, 0, []) := fun q => h6 (congrArg Prod.fst q)
    by_cases hc : ldB (aft x (k, n, t)) = true ∧ aft x (k, n, t) ≠ x
    · rw [if_pos hc] at e
      rw [if_pos hc, doR_some hd (doD_new (d := (x, xs)) hne e)]
    · rw [if_neg hc] at e
      rw [if_neg hc, doR_none hd (doD_none (d := (x, xs)) hne e)]

end Go.Proofs.Ytnkebgkocpeonaa

/-
  Deeds one after the other: DeskRun, the program's and the model's.
-/
namespace Go.Proofs.Ytnkebgkocpeonaa
open Go.RowKit

def runR (d : Dk) (l : List Dd) : Dk × Nat := if dkB d = true ∧ l.length ≤ 40 then runD d l else (nilDk, 0)
def RunPost (r : Dk × Nat) (w : World) (e : Ending) (w' : World) : Prop := ∃ a cap, e = .returned (.tuple #[dkV r.1 a cap, .int .i64 (r.2 : Int)]) ∧ OwnL w' w.heap.size a r.1.2 ∧ (a = none → cap = 0) ∧ w.grownBy w' none

theorem dds_next {l : List Dd} {i : Nat} (hi : i < l.length) : l.take (i + 1) = l.take i ++ [l.getD i nilDd] := by
  rw [List.take_succ_eq_append_getElem hi, List.getD_eq_getElem?_getD, List.getElem?_eq_getElem hi]; rfl
theorem run_step {d e : Dk} {l : List Dd} {i n : Nat} (hi : i < l.length) (h : runD d (l.take i) = (e, n)) (he : dkB e = true) {f : Dk} {ok : Bool} (hr : doR e (l.getD i nilDd) = (f, ok)) : runD d (l.take (i + 1)) = (f, cond ok (n + 1) n) ∧ dkB f = true ∧ (ok = false → f = e) := by
  rw [dds_next hi]
  cases hq : doD e (l.getD i nilDd) with
  | none =>
    rw [doR_none he hq] at hr
    cases hr
    refine ⟨?_, he, fun _ => rfl⟩
    rw [run_snoc_no (by rw [h]; exact hq), h]; rfl
  | some g =>
    rw [doR_some he hq] at hr
    cases hr
    refine ⟨?_, do_ok he hq, fun h => by cases h⟩
    rw [run_snoc_yes (by rw [h]; exact hq), h]; rfl

theorem OwnL.put3 {W : World} {base b : Nat} {a : Option Addr} {xs : List Ld} (o : OwnL W base a xs) (hB : DkB W b) (p q t : Value) : OwnL (((W.setCell ⟨b, 0, none⟩ p).setCell ⟨b, 1, none⟩ q).setCell ⟨b, 2, none⟩ t) base a xs := o.beside hB (put3_past W b p q t)
theorem dk_facts {W : World} {b : Nat} {u v x : Value} (h : CellsAt W b #[u, v, x] 31) : (W.cell? ⟨b, 0, none⟩ = some u ∧ W.cell? ⟨b, 1, none⟩ = some v ∧ W.cell? ⟨b, 2, none⟩ = some x) ∧ W.frozen? ⟨b, 0, none⟩ = false ∧ W.frozen? ⟨b, 1, none⟩ = false ∧ W.frozen? ⟨b, 2, none⟩ = false := ⟨h.three, h.frozen 0, h.frozen 1, h.frozen 2⟩

theorem zero_1 {W W' : World} (hg : (W.alloc (.cells #[.int .i64 0, .string ⟨#[]⟩, .slice none 0 0] 31)).grownBy W' none) : CellsAt W' W.heap.size #[.int .i64 0, .string ⟨#[]⟩, .slice none 0 0] 31 := (CellsAt.new W _ _).grown hg
theorem lastS7 {a b c d e f g : Prop} (h : a ∧ b ∧ c ∧ d ∧ e ∧ f ∧ g) : g := h.2.2.2.2.2.2
theorem sizeS7 {a b c d e f : Prop} {W W' : World} {row : Option Nat} (h : a ∧ b ∧ c ∧ d ∧ e ∧ f ∧ W.grownBy W' row) : W.heap.size ≤ W'.heap.size := h.2.2.2.2.2.2.size
/-- A variable with the desk that was answered. -/
def GotZ (W : World) (m : Int) (s : List UInt8) (xs : List Ld) (ok : Bool) (p v : Value) (wc : World) : Prop :=
  ∃ (b : Nat) (a : Option Addr) (cap : Nat), p = .pointer (some ⟨b, 0, none⟩) ∧ v = .bool ok ∧ W.heap.size ≤ b ∧ CellsAt wc b #[.int .i64 m, .string (bs s), .slice a xs.length cap] 31 ∧ OwnL wc W.heap.size a xs ∧ (a = none → cap = 0) ∧ W.grownBy wc none
theorem gotZ_new {W wc : World} {m : Int} {s : List UInt8} {xs : List Ld} {ok : Bool} {a : Option Addr} {cap base : Nat} (ho : OwnL wc base a xs) (hz : a = none → cap = 0) (hb : W.heap.size ≤ base) (hg : W.grownBy wc none) :
    GotZ W m s xs ok (.pointer (some ⟨wc.heap.size, 0, none⟩)) (.bool ok) (wc.alloc (.cells #[.int .i64 m, .string (bs s), .slice a xs.length cap] 31)) :=
  ⟨_, a, cap, rfl, rfl, hg.size, CellsAt.new wc _ _, (ho.kept (World.grownBy_alloc _ _ none)).mono hb, hz, grownBy_trans hg (World.grownBy_alloc _ _ none)⟩
theorem gotZ_old {W wc : World} {m : Int} {s : List UInt8} {xs : List Ld} {ok : Bool} {a : Option Addr} {cap base b : Nat} {x y z : Value} (ho : OwnL wc base a xs) (hz : a = none → cap = 0) (hb : W.heap.size ≤ base) (hg : W.grownBy wc none) (hB : CellsAt wc b #[x, y, z] 31) (hw : W.heap.size ≤ b) :
    GotZ W m s xs ok (.pointer (some ⟨b, 0, none⟩)) (.bool ok) (((wc.setCell ⟨b, 0, none⟩ (.int .i64 m)).setCell ⟨b, 1, none⟩ (.string (bs s))).setCell ⟨b, 2, none⟩ (.slice a xs.length cap)) :=
  ⟨b, a, cap, rfl, rfl, hw, hB.put3 _ _ _, (ho.beside ⟨_, hB⟩ (put3_past wc b _ _ _)).mono hb, hz, put3_grown b hg hw _ _ _⟩

/-- A variable with a desk that was answered, and a value beside it. -/
def GotV (W : World) (m : Int) (s : List UInt8) (xs : List Ld) (v0 p v : Value) (wc : World) : Prop :=
  ∃ (b : Nat) (a : Option Addr) (cap : Nat), p = .pointer (some ⟨b, 0, none⟩) ∧ v = v0 ∧ W.heap.size ≤ b ∧ CellsAt wc b #[.int .i64 m, .string (bs s), .slice a xs.length cap] 31 ∧ OwnL wc W.heap.size a xs ∧ (a = none → cap = 0) ∧ W.grownBy wc none
theorem gotV_new {W wc : World} {m : Int} {s : List UInt8} {xs : List Ld} {v0 : Value} {a : Option Addr} {cap base : Nat} (ho : OwnL wc base a xs) (hz : a = none → cap = 0) (hb : W.heap.size ≤ base) (hg : W.grownBy wc none) :
    GotV W m s xs v0 (.pointer (some ⟨wc.heap.size, 0, none⟩)) v0 (wc.alloc (.cells #[.int .i64 m, .string (bs s), .slice a xs.length cap] 31)) :=
  ⟨_, a, cap, rfl, rfl, hg.size, CellsAt.new wc _ _, (ho.kept (World.grownBy_alloc _ _ none)).mono hb, hz, grownBy_trans hg (World.grownBy_alloc _ _ none)⟩
theorem gotV_old {W wc : World} {m : Int} {s : List UInt8} {xs : List Ld} {v0 : Value} {a : Option Addr} {cap base b : Nat} {x y z : Value} (ho : OwnL wc base a xs) (hz : a = none → cap = 0) (hb : W.heap.size ≤ base) (hg : W.grownBy wc none) (hB : CellsAt wc b #[x, y, z] 31) (hw : W.heap.size ≤ b) :
    GotV W m s xs v0 (.pointer (some ⟨b, 0, none⟩)) v0 (((wc.setCell ⟨b, 0, none⟩ (.int .i64 m)).setCell ⟨b, 1, none⟩ (.string (bs s))).setCell ⟨b, 2, none⟩ (.slice a xs.length cap)) :=
  ⟨b, a, cap, rfl, rfl, hw, hB.put3 _ _ _, (ho.beside ⟨_, hB⟩ (put3_past wc b _ _ _)).mono hb, hz, put3_grown b hg hw _ _ _⟩
theorem lastS4 {a b c d : Prop} (h : a ∧ b ∧ c ∧ d) : d := h.2.2.2
theorem sizeS4 {a b c : Prop} {W W' : World} {row : Option Nat} (h : a ∧ b ∧ c ∧ W.grownBy W' row) : W.heap.size ≤ W'.heap.size := h.2.2.2.size

/-- The desk between the deeds. -/
def RunI (w0 : World) (b : Nat) (d : Dk) (l : List Dd) (iv nv : Value) (wr : World) : Prop :=
  ∃ (i n : Nat) (e : Dk) (a : Option Addr) (cap : Nat), i ≤ l.length ∧ iv = .int .i64 i ∧ nv = .int .i64 n ∧ n ≤ i ∧ runD d (l.take i) = (e, n) ∧ dkB e = true ∧ CellsAt wr b #[.int .i64 e.1.1, .string (bs e.1.2), .slice a e.2.length cap] 31 ∧ OwnL wr w0.heap.size a e.2 ∧ (a = none → cap = 0) ∧ CellsAt wr (w0.heap.size + 1) #[.int .i64 0, .string ⟨#[]⟩, .slice none 0 0] 31 ∧ w0.grownBy wr none ∧ w0.heap.size + 1 < b
theorem run_post0 {w w' : World} (hg : w.grownBy w' none) : RunPost (nilDk, 0) w (.returned (.tuple #[.agg #[.int .i64 0, .string ⟨#[]⟩, .slice none 0 0], .int .i64 0])) (((w'.setCell ⟨w.heap.size + 1, 0, none⟩ (.int .i64 0)).setCell ⟨w.heap.size + 1, 1, none⟩ (.string ⟨#[]⟩)).setCell ⟨w.heap.size + 1, 2, none⟩ (.slice none 0 0)) :=
  ⟨none, 0, rfl, OwnL.nil _ _ _, fun _ => rfl, put3_grown _ hg (by omega) _ _ _⟩

set_option maxRecDepth 8000 in
set_option maxHeartbeats 2000000 in
theorem irun_bad (m : Int) (s : List UInt8) (xs : List Ld) (l : List Dd) (a b : Option Addr) (cap capb : Nat) (w : World) (h : LdsAt w a xs) (hd : dkB ((m, s), xs) = false ∨ (dkB ((m, s), xs) = true ∧ 40 < l.length)) :
    Calls Try.prog 30 #[.agg #[.int .i64 m, .string (bs s), .slice a xs.length cap], .slice b l.length capb] w (RunPost (nilDk, 0) w) := by
  have g2 : w.grownBy ((w.alloc (.cells #[.int .i64 m, .string (bs s), .slice a xs.length cap] 31)).alloc (.cells #[.int .i64 0, .string ⟨#[]⟩, .slice none 0 0] 31)) none := grownBy_trans (World.grownBy_alloc w _ none) (World.grownBy_alloc _ _ none)
  have hZ := Lib.hid (CellsAt.second w (.cells #[.int .i64 m, .string (bs s), .slice a xs.length cap] 31) #[.int .i64 0, .string ⟨#[]⟩, .slice none 0 0] 31)
  have ck := idesk_any ((m, s), xs) a cap _ (h.grown g2)
  have G2 := Lib.hid g2
  clear h g2
  unfold dkV at ck
  rcases hd with hd | ⟨hd, hl⟩
  · rw [hd] at ck
    go_enter Try.func30, Try.ntmps30
    go_wp2_with (first | (go_at_call 18; refine ck.mono ?_; rintro e w1 ⟨rfl, hg⟩; obtain ⟨⟨z0, z1, z2⟩, f0, f1, f2⟩ := dk_facts (hZ.out.grown hg)))
    exact bodyPost_ret (v := .tuple #[.agg #[.int .i64 0, .string ⟨#[]⟩, .slice none 0 0], .int .i64 0]) (resDkB (b := .int .i64 0) rfl _ rfl rfl ((hZ.out.grown hg).put3 _ _ _)) rfl (run_post0 (grownBy_trans G2.out hg))
  · rw [hd] at ck
    have hll : (40 : Int) < (l.length : Int) := by omega
    go_enter Try.func30, Try.ntmps30
    go_wp2_with (first | (go_at_call 18; refine ck.mono ?_; rintro e w1 ⟨rfl, hg⟩; obtain ⟨⟨z0, z1, z2⟩, f0, f1, f2⟩ := dk_facts (hZ.out.grown hg)))
    exact bodyPost_ret (v := .tuple #[.agg #[.int .i64 0, .string ⟨#[]⟩, .slice none 0 0], .int .i64 0]) (resDkB (b := .int .i64 0) rfl _ rfl rfl ((hZ.out.grown hg).put3 _ _ _)) rfl (run_post0 (grownBy_trans G2.out hg))

set_option maxRecDepth 8000 in
set_option maxHeartbeats 2000000 in
theorem srun_bad (m : Int) (s : List UInt8) (xs : List Ld) (l : List Dd) (a b : Option Addr) (cap capb : Nat) (w : World) (h : LdsAt w a xs) (hd : dkB ((m, s), xs) = false ∨ (dkB ((m, s), xs) = true ∧ 40 < l.length)) :
    Calls Try.prog 31 #[.agg #[.int .i64 m, .string (bs s), .slice a xs.length cap], .slice b l.length capb] w (RunPost (nilDk, 0) w) := by
  have g2 : w.grownBy ((w.alloc (.cells #[.int .i64 m, .string (bs s), .slice a xs.length cap] 31)).alloc (.cells #[.int .i64 0, .string ⟨#[]⟩, .slice none 0 0] 31)) none := grownBy_trans (World.grownBy_alloc w _ none) (World.grownBy_alloc _ _ none)
  have hZ := Lib.hid (CellsAt.second w (.cells #[.int .i64 m, .string (bs s), .slice a xs.length cap] 31) #[.int .i64 0, .string ⟨#[]⟩, .slice none 0 0] 31)
  have ck := sdesk_is ((m, s), xs) a cap _ (h.grown g2)
  have G2 := Lib.hid g2
  clear h g2
  unfold dkV at ck
  rcases hd with hd | ⟨hd, hl⟩
  · rw [hd] at ck
    go_enter Try.func31, Try.ntmps31
    go_wp2_with (first | (go_at_call 19; refine ck.mono ?_; rintro e w1 ⟨rfl, hg⟩; obtain ⟨⟨z0, z1, z2⟩, f0, f1, f2⟩ := dk_facts (hZ.out.grown hg)))
    exact bodyPost_ret (v := .tuple #[.agg #[.int .i64 0, .string ⟨#[]⟩, .slice none 0 0], .int .i64 0]) (resDkB (b := .int .i64 0) rfl _ rfl rfl ((hZ.out.grown hg).put3 _ _ _)) rfl (run_post0 (grownBy_trans G2.out hg))
  · rw [hd] at ck
    have hll : (40 : Int) < (l.length : Int) := by omega
    go_enter Try.func31, Try.ntmps31
    go_wp2_with (first | (go_at_call 19; refine ck.mono ?_; rintro e w1 ⟨rfl, hg⟩; obtain ⟨⟨z0, z1, z2⟩, f0, f1, f2⟩ := dk_facts (hZ.out.grown hg)))
    exact bodyPost_ret (v := .tuple #[.agg #[.int .i64 0, .string ⟨#[]⟩, .slice none 0 0], .int .i64 0]) (resDkB (b := .int .i64 0) rfl _ rfl rfl ((hZ.out.grown hg).put3 _ _ _)) rfl (run_post0 (grownBy_trans G2.out hg))

set_option maxRecDepth 8000 in
set_option maxHeartbeats 8000000 in
theorem irun_ok (m : Int) (s : List UInt8) (xs : List Ld) (l : List Dd) (a b : Option Addr) (cap capb : Nat) (w : World) (h : LdsAt w a xs) (h0 : a = none → cap = 0) (hl : DdsAt w b l) (ht : ∀ x ∈ l, x.2.2.length ≤ 4000000) (hd : dkB ((m, s), xs) = true) (hn : l.length ≤ 40) :
    Calls Try.prog 30 #[.agg #[.int .i64 m, .string (bs s), .slice a xs.length cap], .slice b l.length capb] w (RunPost (runD ((m, s), xs) l) w) := by
  have g2 : w.grownBy ((w.alloc (.cells #[.int .i64 m, .string (bs s), .slice a xs.length cap] 31)).alloc (.cells #[.int .i64 0, .string ⟨#[]⟩, .slice none 0 0] 31)) none := grownBy_trans (World.grownBy_alloc w _ none) (World.grownBy_alloc _ _ none)
  have hZ := Lib.hid (CellsAt.second w (.cells #[.int .i64 m, .string (bs s), .slice a xs.length cap] 31) #[.int .i64 0, .string ⟨#[]⟩, .slice none 0 0] 31)
  have hD := Lib.hid (CellsAt.first w (.cells #[.int .i64 0, .string ⟨#[]⟩, .slice none 0 0] 31) #[.int .i64 m, .string (bs s), .slice a xs.length cap] 31)
  have ck := idesk_any ((m, s), xs) a cap _ (h.grown g2)
  rw [hd] at ck
  unfold dkV at ck
  have hx8 : xs.length ≤ 9 := by have := (dkB_of hd).2.2; change xs.length ≤ 8 at this; omega
  have cc : ∀ W, LdsAt W a xs → Calls Try.prog 59 #[.agg #[.int .i64 m, .string (bs s), .slice a xs.length cap]] W fun e w' => ∃ a' cap', e = .returned (.agg #[.int .i64 m, .string (bs s), .slice a' xs.length cap']) ∧ Own2 w' W.heap.size a' cap' xs ∧ W.grownBy w' none := fun W hW => copied_any ((m, s), xs) a cap W hW h0 hx8
  have HX := Lib.hid (h.grown g2)
  have HL := Lib.hid hl
  have HT := Lib.hid ht
  have HD := Lib.hid hd
  have G2 := Lib.hid g2
  have hll : ¬ ((40 : Int) < (l.length : Int)) := by omega
  clear h g2 hl ht hd h0
  go_enter Try.func30, Try.ntmps30
  go_wp2_with fail
  generalize (w.alloc (.cells #[.int .i64 m, .string (bs s), .slice a xs.length cap] 31)).alloc (.cells #[.int .i64 0, .string ⟨#[]⟩, .slice none 0 0] 31) = W at *
  refine ck.mono ?_
  rintro e w1 ⟨rfl, hg1⟩
  obtain ⟨d0, d1, d2⟩ := (hD.out.grown hg1).three
  clear ck
  go_wp2_with fail
  refine (cc _ (HX.out.grown hg1)).mono ?_
  rintro e w2 ⟨a2, c2, rfl, ho, hg2⟩
  have g02 := grownBy_trans G2.out (grownBy_trans hg1 hg2)
  have hA := CellsAt.new w2 #[.int .i64 m, .string (bs s), .slice a2 xs.length c2] 31
  have gA := World.grownBy_alloc w2 (.cells #[.int .i64 m, .string (bs s), .slice a2 xs.length c2] 31) none
  have s1 : w.heap.size ≤ w1.heap.size := (grownBy_trans G2.out hg1).size
  have hZ2 := (hZ.out.grown (grownBy_trans hg1 hg2)).grown gA
  have hlt := (hZ.out.grown (grownBy_trans hg1 hg2)).lt
  have hInit : Hid (RunI w w2.heap.size ((m, s), xs) l (.int .i64 ((0 : Nat) : Int)) (.int .i64 ((0 : Nat) : Int)) (w2.alloc (.cells #[.int .i64 m, .string (bs s), .slice a2 xs.length c2] 31))) := ⟨0, 0, ((m, s), xs), a2, c2, by omega, rfl, rfl, by omega, by rw [List.take_zero]; rfl, HD.out, hA, (ho.kept gA).l.mono s1, (ho.kept gA).bare, hZ2, grownBy_trans g02 gA, hlt⟩
  clear ho hg1 hg2 g02 gA s1 hZ2 hA cc d0 d1 d2
  go_wp2_with fail
  generalize w2.alloc (.cells #[.int .i64 m, .string (bs s), .slice a2 xs.length c2] 31) = W2 at *
  generalize w2.heap.size = bA at *
  go_loopw [25, 7] (fun iv nv wr => RunI w bA ((m, s), xs) l iv nv wr) (fun iv _ _ => l.length - (intOf iv).toNat)
  case atStart => exact hInit.out
  case round =>
    obtain ⟨i, n, ⟨⟨p, u⟩, ys⟩, ae, ce, hi, rfl, rfl, hni, hrun, hde, hB, ho, hz, hZr, hgr, hb⟩ := hrel
    have HB := Lib.hid hB
    have HO := Lib.hid ho
    have HZr := Lib.hid hZr
    have HG := Lib.hid hgr
    have HDE := Lib.hid hde
    have HR := Lib.hid hrun
    clear hB ho hZr hgr hde hrun
    obtain ⟨⟨y0, y1, y2⟩, v0, v1, v2⟩ := dk_facts HB.out
    obtain ⟨⟨z0, z1, z2⟩, f0, f1, f2⟩ := dk_facts HZr.out
    by_cases hlt : i < l.length
    · have hst : ∀ f ok, doR ((p, u), ys) (l.getD i nilDd) = (f, ok) → runD ((m, s), xs) (l.take (i + 1)) = (f, cond ok (n + 1) n) ∧ dkB f = true ∧ (ok = false → f = ((p, u), ys)) := fun f ok hr => run_step hlt HR.out HDE.out hr
      have htD := HT.out _ (getDd_mem hlt)
      rcases (HL.out.grown HG.out).2 with q | ⟨bx, ox, rfl, _, hcx⟩
      · rw [q] at hlt; simp at hlt
      obtain ⟨k0, k1, k2⟩ := hcx i hlt
      clear hcx
      obtain ⟨D, hD⟩ : ∃ D, D = l.getD i nilDd := ⟨_, rfl⟩
      rw [← hD] at hst htD k0 k1 k2
      obtain ⟨⟨⟨⟨p2, u2⟩, ys2⟩, ok⟩, hR⟩ : ∃ R, R = doR ((p, u), ys) D := ⟨_, rfl⟩
      have HS := Lib.hid (hst _ _ hR.symm)
      have cd : ∀ W, LdsAt W ae ys → Calls Try.prog 26 #[.agg #[.int .i64 p, .string (bs u), .slice ae ys.length ce], .agg #[.int .i64 D.1, .int .i64 D.2.1, .string (bs D.2.2)]] W fun e w' => ∃ a' cap', e = .returned (.tuple #[.agg #[.int .i64 p2, .string (bs u2), .slice a' ys2.length cap'], .bool ok]) ∧ OwnL w' W.heap.size a' ys2 ∧ (a' = none → cap' = 0) ∧ W.grownBy w' none := fun W hW => by
        have := ido_any ((p, u), ys) D ae ce W hW hz htD
        rw [← hR] at this
        exact this
      clear hst hR hD htD HDE
      have gE := World.grownBy_alloc wr (.cells #[.int .i64 D.1, .int .i64 D.2.1, .string (bs D.2.2)] 39) none
      obtain ⟨e0, e1, e2⟩ := (CellsAt.new wr #[.int .i64 D.1, .int .i64 D.2.1, .string (bs D.2.2)] 39).three
      obtain ⟨b0, b1, b2⟩ := (HB.out.grown gE).three
      clear y0 y1 y2 v0 v1 v2 z0 z1 z2 f0 f1 f2
      go_wp2_with fail
      refine (cd _ (HO.out.at.grown gE)).mono ?_
      rintro e w3 ⟨a3, c3, rfl, o3, z3, hg3⟩
      have gX := World.grownBy_alloc w3 (.cells #[.int .i64 p2, .string (bs u2), .slice a3 ys2.length c3] 31) none
      have gg := Lib.hid (grownBy_trans gE (grownBy_trans hg3 gX))
      obtain ⟨x0, x1, x2⟩ := (CellsAt.new w3 #[.int .i64 p2, .string (bs u2), .slice a3 ys2.length c3] 31).three
      have HB4 := Lib.hid (HB.out.grown gg.out)
      have HZ4 := Lib.hid (HZr.out.grown gg.out)
      have so : w.heap.size ≤ wr.heap.size := HG.out.size
      have O4 := Lib.hid ((o3.kept gX).mono (base' := w.heap.size) (Nat.le_trans so gE.size))
      have G4 := Lib.hid (grownBy_trans HG.out gg.out)
      obtain ⟨⟨y0, y1, y2⟩, v0, v1, v2⟩ := dk_facts HB4.out
      clear o3 hg3 gX cd e0 e1 e2 b0 b1 b2 gE k0 k1 k2
      cases ok
      · go_wp2_with fail
        go_roundw
        case rel => exact ⟨i + 1, n, ((p2, u2), ys2), a3, c3, by omega, by go_num, rfl, by omega, HS.out.1, HS.out.2.1, HB4.out.put3 _ _ _, O4.out.put3 ⟨_, HB4.out⟩ _ _ _, z3, HZ4.out.kept (put3_past _ bA _ _ _) (by simp; omega), put3_grown _ G4.out (by omega) _ _ _, hb⟩
        case measure => simp [intOf]; omega
      · go_wp2_with fail
        go_roundw
        case rel => exact ⟨i + 1, n + 1, ((p2, u2), ys2), a3, c3, by omega, by go_num, by go_num, by omega, HS.out.1, HS.out.2.1, HB4.out.put3 _ _ _, O4.out.put3 ⟨_, HB4.out⟩ _ _ _, z3, HZ4.out.kept (put3_past _ bA _ _ _) (by simp; omega), put3_grown _ G4.out (by omega) _ _ _, hb⟩
        case measure => simp [intOf]; omega
    · obtain rfl : i = l.length := by omega
      have e := HR.out
      rw [List.take_length] at e
      have F := Lib.hid (HZr.out.put3 (.int .i64 p) (.string (bs u)) (.slice ae ys.length ce))
      have P : Hid (RunPost (runD ((m, s), xs) l) w (.returned (.tuple #[.agg #[.int .i64 p, .string (bs u), .slice ae ys.length ce], .int .i64 (n : Int)])) (((wr.setCell ⟨w.heap.size + 1, 0, none⟩ (.int .i64 p)).setCell ⟨w.heap.size + 1, 1, none⟩ (.string (bs u))).setCell ⟨w.heap.size + 1, 2, none⟩ (.slice ae ys.length ce))) := by
        rw [e]
        exact ⟨ae, ce, rfl, HO.out.put3 ⟨_, HZr.out⟩ _ _ _, hz, put3_grown _ HG.out (by omega) _ _ _⟩
      clear e
      go_wp2_with fail
      exact bodyPost_ret (v := .tuple #[.agg #[.int .i64 p, .string (bs u), .slice ae ys.length ce], .int .i64 (n : Int)]) (resDkB (b := .int .i64 (n : Int)) rfl _ rfl rfl F.out) rfl P.out


set_option maxRecDepth 8000 in
set_option maxHeartbeats 8000000 in
theorem srun_ok (m : Int) (s : List UInt8) (xs : List Ld) (l : List Dd) (a b : Option Addr) (cap capb : Nat) (w : World) (h : LdsAt w a xs) (h0 : a = none → cap = 0) (hl : DdsAt w b l) (_ht : ∀ x ∈ l, x.2.2.length ≤ 4000000) (hd : dkB ((m, s), xs) = true) (hn : l.length ≤ 40) :
    Calls Try.prog 31 #[.agg #[.int .i64 m, .string (bs s), .slice a xs.length cap], .slice b l.length capb] w (RunPost (runD ((m, s), xs) l) w) := by
  have g2 : w.grownBy ((w.alloc (.cells #[.int .i64 m, .string (bs s), .slice a xs.length cap] 31)).alloc (.cells #[.int .i64 0, .string ⟨#[]⟩, .slice none 0 0] 31)) none := grownBy_trans (World.grownBy_alloc w _ none) (World.grownBy_alloc _ _ none)
  have hZ := Lib.hid (CellsAt.second w (.cells #[.int .i64 m, .string (bs s), .slice a xs.length cap] 31) #[.int .i64 0, .string ⟨#[]⟩, .slice none 0 0] 31)
  have hD := Lib.hid (CellsAt.first w (.cells #[.int .i64 0, .string ⟨#[]⟩, .slice none 0 0] 31) #[.int .i64 m, .string (bs s), .slice a xs.length cap] 31)
  have ck := sdesk_is ((m, s), xs) a cap _ (h.grown g2)
  rw [hd] at ck
  unfold dkV at ck
  have hx8 : xs.length ≤ 9 := by have := (dkB_of hd).2.2; change xs.length ≤ 8 at this; omega
  have cc : ∀ W, LdsAt W a xs → Calls Try.prog 63 #[.agg #[.int .i64 m, .string (bs s), .slice a xs.length cap]] W fun e w' => ∃ a' cap', e = .returned (.agg #[.int .i64 m, .string (bs s), .slice a' xs.length cap']) ∧ Own2 w' W.heap.size a' cap' xs ∧ W.grownBy w' none := fun W hW => scopy_any ((m, s), xs) a cap W hW h0 hx8
  have HX := Lib.hid (h.grown g2)
  have HL := Lib.hid hl
  have HD := Lib.hid hd
  have G2 := Lib.hid g2
  have hll : ¬ ((40 : Int) < (l.length : Int)) := by omega
  clear h g2 hl hd h0
  go_enter Try.func31, Try.ntmps31
  go_wp2_with fail
  generalize (w.alloc (.cells #[.int .i64 m, .string (bs s), .slice a xs.length cap] 31)).alloc (.cells #[.int .i64 0, .string ⟨#[]⟩, .slice none 0 0] 31) = W at *
  refine ck.mono ?_
  rintro e w1 ⟨rfl, hg1⟩
  obtain ⟨d0, d1, d2⟩ := (hD.out.grown hg1).three
  clear ck
  go_wp2_with fail
  refine (cc _ (HX.out.grown hg1)).mono ?_
  rintro e w2 ⟨a2, c2, rfl, ho, hg2⟩
  have g02 := grownBy_trans G2.out (grownBy_trans hg1 hg2)
  have hA := CellsAt.new w2 #[.int .i64 m, .string (bs s), .slice a2 xs.length c2] 31
  have gA := World.grownBy_alloc w2 (.cells #[.int .i64 m, .string (bs s), .slice a2 xs.length c2] 31) none
  have s1 : w.heap.size ≤ w1.heap.size := (grownBy_trans G2.out hg1).size
  have hZ2 := (hZ.out.grown (grownBy_trans hg1 hg2)).grown gA
  have hlt := (hZ.out.grown (grownBy_trans hg1 hg2)).lt
  have hInit : Hid (RunI w w2.heap.size ((m, s), xs) l (.int .i64 ((0 : Nat) : Int)) (.int .i64 ((0 : Nat) : Int)) (w2.alloc (.cells #[.int .i64 m, .string (bs s), .slice a2 xs.length c2] 31))) := ⟨0, 0, ((m, s), xs), a2, c2, by omega, rfl, rfl, by omega, by rw [List.take_zero]; rfl, HD.out, hA, (ho.kept gA).l.mono s1, (ho.kept gA).bare, hZ2, grownBy_trans g02 gA, hlt⟩
  clear ho hg1 hg2 g02 gA s1 hZ2 hA cc d0 d1 d2
  go_wp2_with fail
  generalize w2.alloc (.cells #[.int .i64 m, .string (bs s), .slice a2 xs.length c2] 31) = W2 at *
  generalize w2.heap.size = bA at *
  go_loopw [8, 7] (fun iv nv wr => RunI w bA ((m, s), xs) l iv nv wr) (fun iv _ _ => l.length - (intOf iv).toNat)
  case atStart => exact hInit.out
  case round =>
    obtain ⟨i, n, ⟨⟨p, u⟩, ys⟩, ae, ce, hi, rfl, rfl, hni, hrun, hde, hB, ho, hz, hZr, hgr, hb⟩ := hrel
    have HB := Lib.hid hB
    have HO := Lib.hid ho
    have HZr := Lib.hid hZr
    have HG := Lib.hid hgr
    have HDE := Lib.hid hde
    have HR := Lib.hid hrun
    clear hB ho hZr hgr hde hrun
    obtain ⟨⟨y0, y1, y2⟩, v0, v1, v2⟩ := dk_facts HB.out
    obtain ⟨⟨z0, z1, z2⟩, f0, f1, f2⟩ := dk_facts HZr.out
    by_cases hlt : i < l.length
    · have hst : ∀ f ok, doR ((p, u), ys) (l.getD i nilDd) = (f, ok) → runD ((m, s), xs) (l.take (i + 1)) = (f, cond ok (n + 1) n) ∧ dkB f = true ∧ (ok = false → f = ((p, u), ys)) := fun f ok hr => run_step hlt HR.out HDE.out hr
      rcases (HL.out.grown HG.out).2 with q | ⟨bx, ox, rfl, _, hcx⟩
      · rw [q] at hlt; simp at hlt
      obtain ⟨k0, k1, k2⟩ := hcx i hlt
      clear hcx
      obtain ⟨D, hD⟩ : ∃ D, D = l.getD i nilDd := ⟨_, rfl⟩
      rw [← hD] at hst k0 k1 k2
      obtain ⟨⟨⟨⟨p2, u2⟩, ys2⟩, ok⟩, hR⟩ : ∃ R, R = doR ((p, u), ys) D := ⟨_, rfl⟩
      have HS := Lib.hid (hst _ _ hR.symm)
      have cd : ∀ W, LdsAt W ae ys → Calls Try.prog 27 #[.agg #[.int .i64 p, .string (bs u), .slice ae ys.length ce], .agg #[.int .i64 D.1, .int .i64 D.2.1, .string (bs D.2.2)]] W fun e w' => ∃ a' cap', e = .returned (.tuple #[.agg #[.int .i64 p2, .string (bs u2), .slice a' ys2.length cap'], .bool ok]) ∧ OwnL w' W.heap.size a' ys2 ∧ (a' = none → cap' = 0) ∧ W.grownBy w' none := fun W hW => by
        have := sdo_do ((p, u), ys) D ae ce W hW hz
        rw [← hR] at this
        exact this
      clear hst hR hD HDE
      clear z0 z1 z2 f0 f1 f2 y0 y1 y2 v0 v1 v2
      have KS : Hid (∀ w', wr.grownBy w' none → w'.cell? ⟨bA, 0, none⟩ = some (.int .i64 p) ∧ w'.cell? ⟨bA, 1, none⟩ = some (.string (bs u)) ∧ w'.cell? ⟨bA, 2, none⟩ = some (.slice ae ys.length ce) ∧ w'.cell? ⟨bx, ox + i * 3, none⟩ = some (.int .i64 D.1) ∧ w'.cell? ⟨bx, ox + i * 3 + 1, none⟩ = some (.int .i64 D.2.1) ∧ w'.cell? ⟨bx, ox + i * 3 + 2, none⟩ = some (.string (bs D.2.2)) ∧ wr.grownBy w' none) := fun w' g => ⟨(HB.out.grown g).three.1, (HB.out.grown g).three.2.1, (HB.out.grown g).three.2.2, g.cell k0 (by simp), g.cell k1 (by simp), g.cell k2 (by simp), g⟩
      clear k0 k1 k2
      have lbb := HB.out.lt
      go_wp2_with fail
      go_cut [9, 10] from 22 to 40 (fun pv bv wc => GotZ wr p2 u2 ys2 ok pv bv wc)
      case first =>
        go_region_held3 (fun w' => w'.cell? ⟨bA, 0, none⟩ = some (.int .i64 p) ∧ w'.cell? ⟨bA, 1, none⟩ = some (.string (bs u)) ∧ w'.cell? ⟨bA, 2, none⟩ = some (.slice ae ys.length ce) ∧ w'.cell? ⟨bx, ox + i * 3, none⟩ = some (.int .i64 D.1) ∧ w'.cell? ⟨bx, ox + i * 3 + 1, none⟩ = some (.int .i64 D.2.1) ∧ w'.cell? ⟨bx, ox + i * 3 + 2, none⟩ = some (.string (bs D.2.2)) ∧ wr.grownBy w' none) (first | exact KS.out _ (grownBy_drew (grownBy_refl _ none)) | exact KS.out _ (grownBy_trans (lastS7 (by assumption)) gd) | exact KS.out _ (grownBy_trans (lastS7 (by assumption)) (World.grownBy_alloc _ _ none)) | exact KS.out _ (grownBy_trans G3.out (World.grownBy_alloc _ _ none)) | exact KS.out _ (put3_grown _ G3.out (by exact Nat.le_refl _) _ _ _) | exact KS.out _ (put3_grown _ (grownBy_trans G3.out (World.grownBy_alloc _ _ none)) G3.out.size _ _ _)) (first | (go_at_call 27; (with_reducible refine (cd _ (HO.out.at.grown (lastS7 (by assumption)))).mono ?_); rintro e wd ⟨a3, c3, rfl, o3, z3, gd⟩; have G3 := Lib.hid (grownBy_trans (lastS7 (by assumption)) gd); have OW := Lib.hid (o3.mono (base' := wr.heap.size) (sizeS7 (by assumption))); have HN := Lib.hid (CellsAt.new wd #[.int .i64 0, .string ⟨#[]⟩, .slice none 0 0] 31); obtain ⟨⟨n0, n1, n2⟩, n3, n4, n5⟩ := dk_facts HN.out; have nl := HN.out.lt; (first | (with_reducible have HZ := Lib.hid (zero_1 (drew_grown gd)); obtain ⟨⟨q0, q1, q2⟩, j0, j1, j2⟩ := dk_facts HZ.out; have zl := HZ.out.lt) | (with_reducible have HZ := Lib.hid (zero_1 gd); obtain ⟨⟨q0, q1, q2⟩, j0, j1, j2⟩ := dk_facts HZ.out; have zl := HZ.out.lt) | skip)))
        all_goals go_wp2_with fail
        all_goals go_meet
        all_goals first | with_reducible exact gotZ_new OW.out z3 (Nat.le_refl _) G3.out | with_reducible exact gotZ_old (OW.out.kept (World.grownBy_alloc _ _ none)) z3 (Nat.le_refl _) (grownBy_trans G3.out (World.grownBy_alloc _ _ none)) HN.out G3.out.size | with_reducible exact gotZ_old OW.out z3 (Nat.le_refl _) G3.out HZ.out (Nat.le_refl _) | (trace_state; fail)
      case rest =>
        obtain ⟨c, a3, c3, rfl, rfl, hcs, hC, o3, z3, hg3⟩ := hcut
        have HB4 := Lib.hid (HB.out.grown hg3)
        have HZ4 := Lib.hid (HZr.out.grown hg3)
        have so : w.heap.size ≤ wr.heap.size := HG.out.size
        have O4 := Lib.hid (o3.mono (base' := w.heap.size) so)
        have G4 := Lib.hid (grownBy_trans HG.out hg3)
        have OE := Lib.hid (HO.out.kept hg3)
        obtain ⟨⟨y0, y1, y2⟩, v0, v1, v2⟩ := dk_facts HB4.out
        obtain ⟨x0, x1, x2⟩ := hC.three
        clear o3 hg3 hC cd
        cases ok
        · have e := HS.out.2.2 rfl
          cases e
          go_wp2_with fail
          go_roundw
          case rel => exact ⟨i + 1, n, ((p, u), ys), ae, ce, by omega, by go_num, rfl, by omega, HS.out.1, HS.out.2.1, HB4.out, OE.out, hz, HZ4.out, G4.out, hb⟩
          case measure => simp [intOf]; omega
        · go_wp2_with fail
          go_roundw
          case rel => exact ⟨i + 1, n + 1, ((p2, u2), ys2), a3, c3, by omega, by go_num, by go_num, by omega, HS.out.1, HS.out.2.1, HB4.out.put3 _ _ _, O4.out.put3 ⟨_, HB4.out⟩ _ _ _, z3, HZ4.out.kept (put3_past _ bA _ _ _) (by simp; omega), put3_grown _ G4.out (by omega) _ _ _, hb⟩
          case measure => simp [intOf]; omega
    · obtain rfl : i = l.length := by omega
      have e := HR.out
      rw [List.take_length] at e
      have F := Lib.hid (HZr.out.put3 (.int .i64 p) (.string (bs u)) (.slice ae ys.length ce))
      have P : Hid (RunPost (runD ((m, s), xs) l) w (.returned (.tuple #[.agg #[.int .i64 p, .string (bs u), .slice ae ys.length ce], .int .i64 (n : Int)])) (((wr.setCell ⟨w.heap.size + 1, 0, none⟩ (.int .i64 p)).setCell ⟨w.heap.size + 1, 1, none⟩ (.string (bs u))).setCell ⟨w.heap.size + 1, 2, none⟩ (.slice ae ys.length ce))) := by
        rw [e]
        exact ⟨ae, ce, rfl, HO.out.put3 ⟨_, HZr.out⟩ _ _ _, hz, put3_grown _ HG.out (by omega) _ _ _⟩
      clear e
      go_wp2_with fail
      exact bodyPost_ret (v := .tuple #[.agg #[.int .i64 p, .string (bs u), .slice ae ys.length ce], .int .i64 (n : Int)]) (resDkB (b := .int .i64 (n : Int)) rfl _ rfl rfl F.out) rfl P.out


theorem irun_any (d : Dk) (l : List Dd) (a b : Option Addr) (cap capb : Nat) (w : World) (h : LdsAt w a d.2) (h0 : a = none → cap = 0) (hl : DdsAt w b l) (ht : ∀ x ∈ l, x.2.2.length ≤ 4000000) :
    Calls Try.prog 30 #[dkV d a cap, .slice b l.length capb] w (RunPost (runR d l) w) := by
  obtain ⟨⟨m, s⟩, xs⟩ := d
  unfold runR
  by_cases hd : dkB ((m, s), xs) = true ∧ l.length ≤ 40
  · rw [if_pos hd]; exact irun_ok m s xs l a b cap capb w h h0 hl ht hd.1 hd.2
  · rw [if_neg hd]
    refine irun_bad m s xs l a b cap capb w h ?_
    cases e : dkB ((m, s), xs)
    · exact .inl rfl
    · exact .inr ⟨rfl, Nat.lt_of_not_le fun q => hd ⟨e, q⟩⟩
theorem srun_any (d : Dk) (l : List Dd) (a b : Option Addr) (cap capb : Nat) (w : World) (h : LdsAt w a d.2) (h0 : a = none → cap = 0) (hl : DdsAt w b l) (ht : ∀ x ∈ l, x.2.2.length ≤ 4000000) :
    Calls Try.prog 31 #[dkV d a cap, .slice b l.length capb] w (RunPost (runR d l) w) := by
  obtain ⟨⟨m, s⟩, xs⟩ := d
  unfold runR
  by_cases hd : dkB ((m, s), xs) = true ∧ l.length ≤ 40
  · rw [if_pos hd]; exact srun_ok m s xs l a b cap capb w h h0 hl ht hd.1 hd.2
  · rw [if_neg hd]
    refine srun_bad m s xs l a b cap capb w h ?_
    cases e : dkB ((m, s), xs)
    · exact .inl rfl
    · exact .inr ⟨rfl, Nat.lt_of_not_le fun q => hd ⟨e, q⟩⟩

end Go.Proofs.Ytnkebgkocpeonaa

/-
  What lies where while the exact laws of desks mark what came in and what was answered.
-/
namespace Go.Proofs.Ytnkebgkocpeonaa
open Go.RowKit

/-- A row that lies below a block, if it has a pair at all. -/
def UpTo (n : Nat) (a : Option Addr) (xs : List Ld) : Prop := xs = [] ∨ ∀ x, a = some x → x.block < n
theorem OwnL.upto {w : World} {base : Nat} {a : Option Addr} {xs : List Ld} (h : OwnL w base a xs) : UpTo w.heap.size a xs := by
  rcases h.2 with h | ⟨g, off, cur, rfl, _, hg, _⟩
  · exact .inl h
  · exact .inr fun x hx => by cases hx; exact (Array.getElem?_eq_some_iff.1 hg).1
theorem UpTo.mono {m n : Nat} {a : Option Addr} {xs : List Ld} (h : UpTo m a xs) (hn : m ≤ n) : UpTo n a xs := by
  rcases h with h | h
  · exact .inl h
  · exact .inr fun x hx => Nat.lt_of_lt_of_le (h x hx) hn
/-- The block that a mark writes: that of a row that the call owns. -/
def RowAt (row : Option Nat) (a : Option Addr) (n : Nat) : Prop := ∀ g, row = some g → 0 < n ∧ ∃ x, a = some x ∧ x.block = g
theorem OwnL.row {w : World} {base g : Nat} {a : Option Addr} {xs : List Ld} {row : Option Nat} (h : OwnL w base a xs) (hr : RowAt row a xs.length) (e : row = some g) : base ≤ g ∧ g < w.heap.size ∧ ∃ cur, w.heap[g]? = some (.cells cur 24 (0, 0)) := by
  obtain ⟨hn, x, rfl, hx⟩ := hr g e
  rcases h.2 with h0 | ⟨g', off, cur, ha, hb, hg, _⟩
  · rw [h0] at hn; simp at hn
  · cases ha
    subst hx
    exact ⟨hb, (Array.getElem?_eq_some_iff.1 hg).1, cur, hg⟩
theorem CellsAt.mark {w w' : World} {base b : Nat} {a : Option Addr} {xs : List Ld} {row : Option Nat} {vs : Array Value} (hB : CellsAt w b vs 31) (h : OwnL w base a xs) (hr : RowAt row a xs.length) (hg : w.grownBy w' row) : CellsAt w' b vs 31 := by
  refine hB.kept hg fun e => ?_
  obtain ⟨_, _, cur, hc⟩ := h.row hr e.symm
  unfold CellsAt at hB
  rw [hB] at hc
  simp at hc
theorem OwnL.mark {w w' : World} {base base2 : Nat} {a b : Option Addr} {xs ys : List Ld} {row : Option Nat} (o : OwnL w base2 b ys) (h : OwnL w base a xs) (hr : RowAt row a xs.length) (hg : w.grownBy w' row) (hap : UpTo base b ys ∨ UpTo base2 a xs) : OwnL w' base2 b ys := by
  refine ⟨o.1, ?_⟩
  by_cases hy : ys = []
  · exact .inl hy
  · obtain ⟨g, off, cur, hb, hbb, hh, hc⟩ := o.2.resolve_left hy
    refine .inr ⟨g, off, cur, hb, hbb, (hg.block g (Array.getElem?_eq_some_iff.1 hh).1 fun e => ?_).trans hh, hc⟩
    obtain ⟨h1, h2, _⟩ := h.row hr e.symm
    obtain ⟨hn, x, hx, hxg⟩ := hr g e.symm
    have hxs : xs ≠ [] := fun q => by rw [q] at hn; simp at hn
    rcases hap with hap | hap
    · have q := hap.resolve_left hy _ hb
      simp at q
      omega
    · have q := hap.resolve_left hxs _ hx
      omega
theorem grown_mark {w0 w w' : World} {base : Nat} {a : Option Addr} {xs : List Ld} {row : Option Nat} (g : w0.grownBy w none) (h : OwnL w base a xs) (hb : w0.heap.size ≤ base) (hr : RowAt row a xs.length) (hg : w.grownBy w' row) : w0.grownBy w' none :=
  ⟨hg.os.trans g.os, hg.tape.trans g.tape, hg.output.trans g.output, Nat.le_trans g.size hg.size, fun k hk hn => (hg.block k (Nat.lt_of_lt_of_le hk g.size) fun e => by
    have := (h.row hr e.symm).1
    omega).trans (g.block k hk hn)⟩

/-- Ahead of the marks: three variables (the model's answer, what was handed in, the program's answer) and their rows. -/
structure StA (w0 W : World) (b0 b1 b2 s1 s2 : Nat) (p : Int) (u : List UInt8) (ys : List Ld) (n : Int) (s : ByteArray) (xs : List Ld) (a0 a1 a2 : Option Addr) (c0 c1 c2 : Nat) : Prop where
  v0 : CellsAt W b0 #[.int .i64 p, .string (bs u), .slice a0 ys.length c0] 31
  v1 : CellsAt W b1 #[.int .i64 n, .string s, .slice a1 xs.length c1] 31
  v2 : CellsAt W b2 #[.int .i64 p, .string (bs u), .slice a2 ys.length c2] 31
  o0 : OwnL W w0.heap.size a0 ys
  o1 : OwnL W s1 a1 xs
  o2 : OwnL W s2 a2 ys
  u0 : UpTo s1 a0 ys
  u1 : UpTo s2 a1 xs
  h1 : w0.heap.size ≤ s1
  h2 : s1 ≤ s2
  gr : w0.grownBy W none
theorem StA.grown {w0 W W' : World} {b0 b1 b2 s1 s2 : Nat} {p : Int} {u : List UInt8} {ys : List Ld} {n : Int} {s : ByteArray} {xs : List Ld} {a0 a1 a2 : Option Addr} {c0 c1 c2 : Nat} (h : StA w0 W b0 b1 b2 s1 s2 p u ys n s xs a0 a1 a2 c0 c1 c2) (hg : W.grownBy W' none) : StA w0 W' b0 b1 b2 s1 s2 p u ys n s xs a0 a1 a2 c0 c1 c2 :=
  ⟨h.v0.grown hg, h.v1.grown hg, h.v2.grown hg, h.o0.kept hg, h.o1.kept hg, h.o2.kept hg, h.u0, h.u1, h.h1, h.h2, grownBy_trans h.gr hg⟩
/-- Behind the first mark. -/
structure StB (w0 W : World) (b0 b2 s1 s2 : Nat) (p : Int) (u : List UInt8) (ys : List Ld) (a0 a2 : Option Addr) (c0 c2 : Nat) : Prop where
  v0 : CellsAt W b0 #[.int .i64 p, .string (bs u), .slice a0 ys.length c0] 31
  v2 : CellsAt W b2 #[.int .i64 p, .string (bs u), .slice a2 ys.length c2] 31
  o0 : OwnL W w0.heap.size a0 ys
  o2 : OwnL W s2 a2 ys
  u0 : UpTo s1 a0 ys
  h1 : w0.heap.size ≤ s1
  h2 : s1 ≤ s2
  gr : w0.grownBy W none
theorem StB.grown {w0 W W' : World} {b0 b2 s1 s2 : Nat} {p : Int} {u : List UInt8} {ys : List Ld} {a0 a2 : Option Addr} {c0 c2 : Nat} (h : StB w0 W b0 b2 s1 s2 p u ys a0 a2 c0 c2) (hg : W.grownBy W' none) : StB w0 W' b0 b2 s1 s2 p u ys a0 a2 c0 c2 :=
  ⟨h.v0.grown hg, h.v2.grown hg, h.o0.kept hg, h.o2.kept hg, h.u0, h.h1, h.h2, grownBy_trans h.gr hg⟩
theorem StA.mark {w0 W W' : World} {b0 b1 b2 s1 s2 k : Nat} {p : Int} {u : List UInt8} {ys : List Ld} {n : Int} {s : ByteArray} {xs : List Ld} {a0 a1 a2 : Option Addr} {c0 c1 c2 : Nat} (h : StA w0 W b0 b1 b2 s1 s2 p u ys n s xs a0 a1 a2 c0 c1 c2) (hM : MarkedD a1 k xs.length W W') : StB w0 W' b0 b2 s1 s2 p u ys a0 a2 c0 c2 := by
  obtain ⟨_, row, hr, hg⟩ := hM
  have hr : RowAt row a1 xs.length := hr
  exact ⟨h.v0.mark h.o1 hr hg, h.v2.mark h.o1 hr hg, h.o0.mark h.o1 hr hg (.inl h.u0), h.o2.mark h.o1 hr hg (.inr h.u1), h.u0, h.h1, h.h2, grown_mark h.gr h.o1 h.h1 hr hg⟩
/-- Behind the second mark. -/
structure StC (w0 W : World) (b0 b2 k : Nat) (p : Int) (u : List UInt8) (ys : List Ld) (a0 a2 : Option Addr) (c0 c2 : Nat) : Prop where
  v0 : CellsAt W b0 #[.int .i64 p, .string (bs u), .slice a0 ys.length c0] 31
  v2 : CellsAt W b2 #[.int .i64 p, .string (bs u), .slice a2 ys.length c2] 31
  o0 : OwnL W w0.heap.size a0 ys
  m2 : LdsAt W a2 (mkRow k ys.length)
  gr : w0.grownBy W none
theorem StC.grown {w0 W W' : World} {b0 b2 k : Nat} {p : Int} {u : List UInt8} {ys : List Ld} {a0 a2 : Option Addr} {c0 c2 : Nat} (h : StC w0 W b0 b2 k p u ys a0 a2 c0 c2) (hg : W.grownBy W' none) : StC w0 W' b0 b2 k p u ys a0 a2 c0 c2 :=
  ⟨h.v0.grown hg, h.v2.grown hg, h.o0.kept hg, h.m2.grown hg, grownBy_trans h.gr hg⟩
theorem StB.mark {w0 W W' : World} {b0 b2 s1 s2 k : Nat} {p : Int} {u : List UInt8} {ys : List Ld} {a0 a2 : Option Addr} {c0 c2 : Nat} (h : StB w0 W b0 b2 s1 s2 p u ys a0 a2 c0 c2) (hM : MarkedD a2 k ys.length W W') : StC w0 W' b0 b2 k p u ys a0 a2 c0 c2 := by
  obtain ⟨hm, row, hr, hg⟩ := hM
  have hr : RowAt row a2 ys.length := hr
  exact ⟨h.v0.mark h.o2 hr hg, h.v2.mark h.o2 hr hg, h.o0.mark h.o2 hr hg (.inl (h.u0.mono h.h2)), hm, grown_mark h.gr h.o2 (Nat.le_trans h.h1 h.h2) hr hg⟩

end Go.Proofs.Ytnkebgkocpeonaa

/-
  The walk of FnExactDeskDo.
-/
namespace Go.Proofs.Ytnkebgkocpeonaa
open Go.RowKit

theorem lastS4' {a b c d : Prop} (h : a ∧ b ∧ c ∧ d) : d := h.2.2.2
theorem lastS7' {a b c d e f g : Prop} (h : a ∧ b ∧ c ∧ d ∧ e ∧ f ∧ g) : g := h.2.2.2.2.2.2
theorem sizeS4' {a b c : Prop} {W W' : World} {row : Option Nat} (h : a ∧ b ∧ c ∧ W.grownBy W' row) : W.heap.size ≤ W'.heap.size := h.2.2.2.size
theorem sizeS7' {a b c d e f : Prop} {W W' : World} {row : Option Nat} (h : a ∧ b ∧ c ∧ d ∧ e ∧ f ∧ W.grownBy W' row) : W.heap.size ≤ W'.heap.size := h.2.2.2.2.2.2.size
/-- What lies in a block that was new ahead of a call, once the call is done. -/
def NewAt (w0 W : World) (b : Nat) : Prop := CellsAt W b #[.int .i64 0, .string ⟨#[]⟩, .slice none 0 0] 31 ∧ w0.heap.size ≤ b
theorem newAt_1 {w0 W W' : World} (g : w0.grownBy W none) (hg : (W.alloc (.cells #[.int .i64 0, .string ⟨#[]⟩, .slice none 0 0] 31)).grownBy W' none) : NewAt w0 W' W.heap.size := ⟨(CellsAt.new W _ _).grown hg, g.size⟩
theorem newAt_0 {W W' : World} (hg : (W.alloc (.cells #[.int .i64 0, .string ⟨#[]⟩, .slice none 0 0] 31)).drew.grownBy W' none) : NewAt W W' W.heap.size := ⟨(CellsAt.new W _ _).grown (drew_grown hg), Nat.le_refl _⟩
theorem NewAt.lies {w0 W : World} {b : Nat} (h : NewAt w0 W b) : CellsAt W b #[.int .i64 0, .string ⟨#[]⟩, .slice none 0 0] 31 := h.1
theorem NewAt.low {w0 W : World} {b : Nat} (h : NewAt w0 W b) : w0.heap.size ≤ b := h.2
theorem NewAt.facts {w0 W : World} {b : Nat} (h : NewAt w0 W b) : ((W.cell? ⟨b, 0, none⟩ = some (.int .i64 0) ∧ W.cell? ⟨b, 1, none⟩ = some (.string ⟨#[]⟩) ∧ W.cell? ⟨b, 2, none⟩ = some (.slice none 0 0)) ∧ W.frozen? ⟨b, 0, none⟩ = false ∧ W.frozen? ⟨b, 1, none⟩ = false ∧ W.frozen? ⟨b, 2, none⟩ = false) ∧ b < W.heap.size := ⟨dk_facts h.1, h.1.lt⟩
theorem NewAt.more {w0 W W' : World} {b : Nat} (h : NewAt w0 W b) (hg : W.grownBy W' none) : NewAt w0 W' b := ⟨h.1.grown hg, h.2⟩

/-- What a call of DeskDo answers, cell by cell; its row is the call's own. -/
def RunZ (m : Int) (s : List UInt8) (xs : List Ld) (v0 : Value) (w : World) (e : Ending) (w' : World) : Prop := ∃ (a : Option Addr) (cap : Nat), e = .returned (.tuple #[.agg #[.int .i64 m, .string (bs s), .slice a xs.length cap], v0]) ∧ OwnL w' w.heap.size a xs ∧ (a = none → cap = 0) ∧ w.grownBy w' none
theorem runZ_of {r : Dk × Bool} {m : Int} {s : List UInt8} {xs : List Ld} {ok : Bool} {w w' : World} {e : Ending} (hr : r = (((m, s), xs), ok)) (h : DoPost r w e w') : RunZ m s xs (.bool ok) w e w' := by
  subst hr
  obtain ⟨a, cap, rfl, ho, h0, hg⟩ := h
  exact ⟨a, cap, rfl, ho, h0, hg⟩
theorem doR_long {d : Dk} {D : Dd} {p : Int} {u : List UInt8} {ys : List Ld} {ok : Bool} (h : doR d D = (((p, u), ys), ok)) : ys.length ≤ d.2.length + 9 := by
  unfold doR at h
  split at h
  · cases hq : doD d D with
    | none => rw [hq] at h; cases h; exact Nat.le_add_right _ _
    | some e =>
      rw [hq] at h
      cases h
      rcases doD_of hq with ⟨_, q, _, he⟩ | ⟨_, y, _, he⟩
      · cases he; rw [List.length_dropLast]; omega
      · cases he
        have := capP_len (d.2 ++ [d.1])
        omega
  · cases h; simp

set_option maxRecDepth 100000 in
set_option maxHeartbeats 16000000 in
theorem FnExactDeskDo_walk (a0 : Int) (s0 : ByteArray) (r0 : Option Addr) (cap0 : Nat) (xs0 : List Ld) (a1 b1 : Int) (s1 : ByteArray) (w : World) (z0 : s0.size ≤ maxLen) (l0 : LdsAt w r0 xs0) (_k0 : r0 = none → cap0 = 0) (q0 : ∀ x ∈ xs0, x.2.length ≤ maxLen) (_w1 : (Lit.int .i64 a1).wf = true) (z1 : s1.size ≤ maxLen) :
    Calls Try.prog 11 #[.agg #[.int .i64 a0, .string s0, .slice r0 xs0.length cap0], .agg #[.int .i64 a1, .int .i64 b1, .string s1]] w fun e w' => e = .returned (.bool true) ∧ Below w.heap.size w w' := by
  have g0 : w.grownBy ((w.alloc (.cells #[.int .i64 a0, .string s0, .slice r0 xs0.length cap0] 55)).alloc (.cells #[.int .i64 a1, .int .i64 b1, .string s1] 61)) none := grownBy_trans (World.grownBy_alloc w _ none) (World.grownBy_alloc _ _ none)
  have HB := Lib.hid (CellsAt.first w (.cells #[.int .i64 a1, .int .i64 b1, .string s1] 61) #[.int .i64 a0, .string s0, .slice r0 xs0.length cap0] 55)
  have HE := Lib.hid (CellsAt.second w (.cells #[.int .i64 a0, .string s0, .slice r0 xs0.length cap0] 55) #[.int .i64 a1, .int .i64 b1, .string s1] 61)
  have cz := szDesk_any a0 s0 r0 cap0 xs0 ((w.alloc (.cells #[.int .i64 a0, .string s0, .slice r0 xs0.length cap0] 55)).alloc (.cells #[.int .i64 a1, .int .i64 b1, .string s1] 61)) (l0.grown g0) z0 q0
  have HL := Lib.hid (l0.grown g0)
  have G0 := Lib.hid g0
  clear l0 g0
  go_enter Try.func11, Try.ntmps11
  go_wp2_with fail
  refine cz.mono ?_
  rintro e w1 ⟨v, rfl, hv, hg1⟩
  clear cz
  by_cases hneg : v < 0
  · clear hv
    go_wp2_with fail
    go_ret
    exact ⟨rfl, below_of (grownBy_trans G0.out hg1)⟩
  have hx : xs0.length ≤ 1048576 := by
    rcases hv with q | q
    · exact absurd q hneg
    · omega
  have hvv : 0 ≤ v ∧ v ≤ 1048576 := by
    rcases hv with q | q
    · exact absurd q hneg
    · omega
  clear hv hneg
  have HB1 := Lib.hid (HB.out.grown hg1)
  have HE1 := Lib.hid (HE.out.grown hg1)
  have HL1 := Lib.hid (HL.out.grown hg1)
  have G1 := Lib.hid (grownBy_trans G0.out hg1)
  clear hg1 HB HE HL G0
  obtain ⟨b, hb⟩ : ∃ b, b = w.heap.size := ⟨_, rfl⟩
  rw [← hb] at HB1 HE1 ⊢
  clear hb
  obtain ⟨d0, d1, d2⟩ := HB1.out.three
  obtain ⟨e0, e1, e2⟩ := HE1.out.three
  have hvp : 0 ≤ v := hvv.1
  go_wp2_with fail
  refine (szDeed_any a1 b1 v s1 _ hvv z1).mono ?_
  rintro e w2 ⟨rfl, hg2⟩
  by_cases hs : v < (s1.size : Int)
  · rw [if_neg (by omega)]
    go_wp2_with fail
    go_ret
    exact ⟨rfl, below_of (grownBy_trans G1.out hg2)⟩
  rw [if_pos (by omega)]
  have hsp : 0 ≤ v - (s1.size : Int) := by omega
  have hsl : s1.size ≤ 1048576 := by omega
  have HB2 := Lib.hid (HB1.out.grown hg2)
  have HE2 := Lib.hid (HE1.out.grown hg2)
  have HL2 := Lib.hid (HL1.out.grown hg2)
  have G2 := Lib.hid (grownBy_trans G1.out hg2)
  clear hg2 HB1 HE1 HL1 G1 d0 d1 d2 e0 e1 e2 hvv hvp
  generalize v - (s1.size : Int) = v2 at *
  obtain ⟨⟨⟨⟨p, u⟩, ys⟩, ok⟩, hR⟩ : ∃ R, R = doR ((a0, bl s0), xs0) (a1, b1, bl s1) := ⟨_, rfl⟩
  have hyl : ys.length ≤ 10000000 := by have := doR_long hR.symm; change ys.length ≤ xs0.length + 9 at this; omega
  have ct : ∀ W, LdsAt W r0 xs0 → Calls Try.prog 35 #[.agg #[.int .i64 a0, .string s0, .slice r0 xs0.length cap0]] W fun e w' => ∃ a' cap', e = .returned (.agg #[.int .i64 a0, .string s0, .slice a' xs0.length cap']) ∧ Own2 w' W.heap.size a' cap' xs0 ∧ W.grownBy w' none := fun W h => toDesk_any a0 s0 r0 cap0 xs0 (by omega) W h
  have cd : ∀ W (a' : Option Addr) (cap' : Nat), LdsAt W a' xs0 → (a' = none → cap' = 0) → Calls Try.prog 27 #[.agg #[.int .i64 a0, .string s0, .slice a' xs0.length cap'], .agg #[.int .i64 a1, .int .i64 b1, .string s1]] W (RunZ p u ys (.bool ok) W) := fun W a' cap' h h0 => by
    have := (sdo_do ((a0, bl s0), xs0) (a1, b1, bl s1) a' cap' W h h0).mono fun _ _ q => runZ_of hR.symm q
    unfold dkV ddV at this
    rw [bs_bl, bs_bl] at this
    exact this
  have ci : ∀ W (a' : Option Addr) (cap' : Nat), LdsAt W a' xs0 → (a' = none → cap' = 0) → Calls Try.prog 26 #[.agg #[.int .i64 a0, .string s0, .slice a' xs0.length cap'], .agg #[.int .i64 a1, .int .i64 b1, .string s1]] W (RunZ p u ys (.bool ok) W) := fun W a' cap' h h0 => by
    have := (ido_any ((a0, bl s0), xs0) (a1, b1, bl s1) a' cap' W h h0 (by show (bl s1).length ≤ 4000000; rw [← bl_size]; omega)).mono fun _ _ q => runZ_of hR.symm q
    unfold dkV ddV at this
    rw [bs_bl, bs_bl] at this
    exact this
  have hvv : (ok != ok) = false := by simp
  clear hR z0 z1 q0
  have lb := HB2.out.lt
  have le := HE2.out.lt
  have KS : Hid (∀ w', w2.grownBy w' none → w'.cell? ⟨b, 0, none⟩ = some (.int .i64 a0) ∧ w'.cell? ⟨b, 1, none⟩ = some (.string s0) ∧ w'.cell? ⟨b, 2, none⟩ = some (.slice r0 xs0.length cap0) ∧ w'.cell? ⟨b + 1, 0, none⟩ = some (.int .i64 a1) ∧ w'.cell? ⟨b + 1, 1, none⟩ = some (.int .i64 b1) ∧ w'.cell? ⟨b + 1, 2, none⟩ = some (.string s1) ∧ w2.grownBy w' none) := fun w' g => ⟨(HB2.out.grown g).three.1, (HB2.out.grown g).three.2.1, (HB2.out.grown g).three.2.2, (HE2.out.grown g).three.1, (HE2.out.grown g).three.2.1, (HE2.out.grown g).three.2.2, g⟩
  go_wp2_with fail
  go_cut [6, 7] (fun pv bv wc => GotV w2 p u ys (.bool ok) pv bv wc)
  case first =>
    go_region_held3 (fun w' => w'.cell? ⟨b, 0, none⟩ = some (.int .i64 a0) ∧ w'.cell? ⟨b, 1, none⟩ = some (.string s0) ∧ w'.cell? ⟨b, 2, none⟩ = some (.slice r0 xs0.length cap0) ∧ w'.cell? ⟨b + 1, 0, none⟩ = some (.int .i64 a1) ∧ w'.cell? ⟨b + 1, 1, none⟩ = some (.int .i64 b1) ∧ w'.cell? ⟨b + 1, 2, none⟩ = some (.string s1) ∧ w2.grownBy w' none) (first | with_reducible exact KS.out _ GP.out | exact KS.out _ (grownBy_drew (grownBy_refl _ none)) | exact KS.out _ (grownBy_drew (World.grownBy_alloc _ _ none)) | with_reducible exact KS.out _ (grownBy_trans GP.out (World.grownBy_alloc _ _ none)) | with_reducible exact KS.out _ (put3_grown _ GP.out NA.out.low _ _ _) | with_reducible exact KS.out _ (put3_grown _ (grownBy_trans GP.out (World.grownBy_alloc _ _ none)) GP.out.size _ _ _)) (first | (go_at_call 35; (with_reducible refine (ct _ (HL2.out.grown (lastS7' (by assumption)))).mono ?_); rintro e wa ⟨a2, c2, rfl, o2, ga⟩; (first | (with_reducible have NA := Lib.hid (NA.out.more ga); obtain ⟨⟨⟨q0, q1, q2⟩, j0, j1, j2⟩, zl⟩ := NA.out.facts) | (with_reducible have NA := Lib.hid (newAt_0 ga); obtain ⟨⟨⟨q0, q1, q2⟩, j0, j1, j2⟩, zl⟩ := NA.out.facts) | (with_reducible have NA := Lib.hid (newAt_1 GP.out ga); obtain ⟨⟨⟨q0, q1, q2⟩, j0, j1, j2⟩, zl⟩ := NA.out.facts) | skip); have GP := Lib.hid (grownBy_trans (lastS7' (by assumption)) ga); have OO := Lib.hid o2) | (go_at_call 40; (with_reducible refine (toDeed_any a1 b1 s1 _).mono ?_); rintro e wb ⟨rfl, gb⟩; (first | (with_reducible have NA := Lib.hid (NA.out.more gb); obtain ⟨⟨⟨q0, q1, q2⟩, j0, j1, j2⟩, zl⟩ := NA.out.facts) | (with_reducible have NA := Lib.hid (newAt_0 gb); obtain ⟨⟨⟨q0, q1, q2⟩, j0, j1, j2⟩, zl⟩ := NA.out.facts) | (with_reducible have NA := Lib.hid (newAt_1 GP.out gb); obtain ⟨⟨⟨q0, q1, q2⟩, j0, j1, j2⟩, zl⟩ := NA.out.facts) | skip); have GP := Lib.hid (grownBy_trans (lastS7' (by assumption)) gb); (first | (with_reducible have OO := Lib.hid (OO.out.kept gb)) | (with_reducible have OO := Lib.hid ((OO.out.kept (World.grownBy_alloc _ _ none)).kept gb)))) | (go_at_call 27; (with_reducible refine (cd _ a2 c2 (by first | with_reducible exact OO.out.at | with_reducible exact (OO.out.kept (World.grownBy_alloc _ _ none)).at) OO.out.bare).mono ?_); rintro e wd ⟨a3, c3, rfl, o3, z3, gd⟩; (first | (with_reducible have NA := Lib.hid (NA.out.more gd); obtain ⟨⟨⟨q0, q1, q2⟩, j0, j1, j2⟩, zl⟩ := NA.out.facts) | (with_reducible have NA := Lib.hid (newAt_0 gd); obtain ⟨⟨⟨q0, q1, q2⟩, j0, j1, j2⟩, zl⟩ := NA.out.facts) | (with_reducible have NA := Lib.hid (newAt_1 GP.out gd); obtain ⟨⟨⟨q0, q1, q2⟩, j0, j1, j2⟩, zl⟩ := NA.out.facts) | skip); have GP := Lib.hid (grownBy_trans (lastS7' (by assumption)) gd); have OW := Lib.hid (o3.mono (base' := w2.heap.size) (sizeS7' (by assumption))); have HN := Lib.hid (CellsAt.new wd #[.int .i64 0, .string ⟨#[]⟩, .slice none 0 0] 31); obtain ⟨⟨m0, m1, m2⟩, m3, m4, m5⟩ := dk_facts HN.out; have nl := HN.out.lt))
    all_goals go_wp2_with fail
    all_goals go_meet
    all_goals first | with_reducible exact gotV_new OW.out z3 (Nat.le_refl _) GP.out | with_reducible exact gotV_old (OW.out.kept (World.grownBy_alloc _ _ none)) z3 (Nat.le_refl _) (grownBy_trans GP.out (World.grownBy_alloc _ _ none)) HN.out GP.out.size | with_reducible exact gotV_old OW.out z3 (Nat.le_refl _) GP.out NA.out.lies NA.out.low | (trace_state; fail)
  case rest =>
    obtain ⟨w3, rfl⟩ : ∃ x, x = wc := ⟨wc, rfl⟩
    obtain ⟨bw, aw, cw, rfl, rfl, hbw, hW, hOW, _, hg3⟩ := hcut
    have HW := Lib.hid hW
    have OW0 := Lib.hid hOW
    have G3 := Lib.hid hg3
    clear hW hOW hg3 KS cd
    obtain ⟨d0, d1, d2⟩ := (HB2.out.grown G3.out).three
    go_wp2_with fail
    refine (ct _ (HL2.out.grown G3.out)).mono ?_
    rintro e w4 ⟨ax, cx, rfl, ox, hg4⟩
    have gX := World.grownBy_alloc w4 (.cells #[.int .i64 a0, .string s0, .slice ax xs0.length cx] 31) none
    have HX := Lib.hid (CellsAt.new w4 #[.int .i64 a0, .string s0, .slice ax xs0.length cx] 31)
    have OX := Lib.hid (ox.kept gX)
    have G4 := Lib.hid (grownBy_trans G3.out (grownBy_trans hg4 gX))
    have HWx := Lib.hid (HW.out.grown (grownBy_trans hg4 gX))
    have OWx := Lib.hid (OW0.out.kept (grownBy_trans hg4 gX))
    have hs34 : w3.heap.size ≤ (w4.alloc (.cells #[.int .i64 a0, .string s0, .slice ax xs0.length cx] 31)).heap.size := (grownBy_trans hg4 gX).size
    clear ox hg4 d0 d1 d2 gX
    go_wp2_with fail
    generalize w4.alloc (.cells #[.int .i64 a0, .string s0, .slice ax xs0.length cx] 31) = w5 at *
    generalize w4.heap.size = bx at *
    have KS : Hid (∀ w', w5.grownBy w' none → w'.cell? ⟨bx, 0, none⟩ = some (.int .i64 a0) ∧ w'.cell? ⟨bx, 1, none⟩ = some (.string s0) ∧ w'.cell? ⟨bx, 2, none⟩ = some (.slice ax xs0.length cx) ∧ w'.cell? ⟨b + 1, 0, none⟩ = some (.int .i64 a1) ∧ w'.cell? ⟨b + 1, 1, none⟩ = some (.int .i64 b1) ∧ w'.cell? ⟨b + 1, 2, none⟩ = some (.string s1) ∧ w5.grownBy w' none) := fun w' g => ⟨(HX.out.grown g).three.1, (HX.out.grown g).three.2.1, (HX.out.grown g).three.2.2, (HE2.out.grown (grownBy_trans G4.out g)).three.1, (HE2.out.grown (grownBy_trans G4.out g)).three.2.1, (HE2.out.grown (grownBy_trans G4.out g)).three.2.2, g⟩
    have lbx := HX.out.lt
    have lbe := (HE2.out.grown G4.out).lt
    go_cut [9, 10] (fun pv bv wc => GotV w5 p u ys (.bool ok) pv bv wc)
    case first =>
      go_region_held3 (fun w' => w'.cell? ⟨bx, 0, none⟩ = some (.int .i64 a0) ∧ w'.cell? ⟨bx, 1, none⟩ = some (.string s0) ∧ w'.cell? ⟨bx, 2, none⟩ = some (.slice ax xs0.length cx) ∧ w'.cell? ⟨b + 1, 0, none⟩ = some (.int .i64 a1) ∧ w'.cell? ⟨b + 1, 1, none⟩ = some (.int .i64 b1) ∧ w'.cell? ⟨b + 1, 2, none⟩ = some (.string s1) ∧ w5.grownBy w' none) (first | with_reducible exact KS.out _ GP.out | exact KS.out _ (grownBy_drew (grownBy_refl _ none)) | exact KS.out _ (grownBy_drew (World.grownBy_alloc _ _ none)) | with_reducible exact KS.out _ (grownBy_trans GP.out (World.grownBy_alloc _ _ none)) | with_reducible exact KS.out _ (put3_grown _ GP.out NA.out.low _ _ _) | with_reducible exact KS.out _ (put3_grown _ (grownBy_trans GP.out (World.grownBy_alloc _ _ none)) GP.out.size _ _ _)) (first | (go_at_call 40; (with_reducible refine (toDeed_any a1 b1 s1 _).mono ?_); rintro e wb ⟨rfl, gb⟩; (first | (with_reducible have NA := Lib.hid (NA.out.more gb); obtain ⟨⟨⟨q0, q1, q2⟩, j0, j1, j2⟩, zl⟩ := NA.out.facts) | (with_reducible have NA := Lib.hid (newAt_0 gb); obtain ⟨⟨⟨q0, q1, q2⟩, j0, j1, j2⟩, zl⟩ := NA.out.facts) | (with_reducible have NA := Lib.hid (newAt_1 GP.out gb); obtain ⟨⟨⟨q0, q1, q2⟩, j0, j1, j2⟩, zl⟩ := NA.out.facts) | skip); have GP := Lib.hid (grownBy_trans (lastS7' (by assumption)) gb)) | (go_at_call 26; (with_reducible refine (ci _ ax cx (OX.out.at.grown (lastS7' (by assumption))) OX.out.bare).mono ?_); rintro e wd ⟨a3, c3, rfl, o3, z3, gd⟩; (first | (with_reducible have NA := Lib.hid (NA.out.more gd); obtain ⟨⟨⟨q0, q1, q2⟩, j0, j1, j2⟩, zl⟩ := NA.out.facts) | (with_reducible have NA := Lib.hid (newAt_0 gd); obtain ⟨⟨⟨q0, q1, q2⟩, j0, j1, j2⟩, zl⟩ := NA.out.facts) | (with_reducible have NA := Lib.hid (newAt_1 GP.out gd); obtain ⟨⟨⟨q0, q1, q2⟩, j0, j1, j2⟩, zl⟩ := NA.out.facts) | skip); have GP := Lib.hid (grownBy_trans (lastS7' (by assumption)) gd); have OW := Lib.hid (o3.mono (base' := w5.heap.size) (sizeS7' (by assumption))); have HN := Lib.hid (CellsAt.new wd #[.int .i64 0, .string ⟨#[]⟩, .slice none 0 0] 31); obtain ⟨⟨m0, m1, m2⟩, m3, m4, m5⟩ := dk_facts HN.out; have nl := HN.out.lt))
      all_goals go_wp2_with fail
      all_goals go_meet
      all_goals first | with_reducible exact gotV_new OW.out z3 (Nat.le_refl _) GP.out | with_reducible exact gotV_old (OW.out.kept (World.grownBy_alloc _ _ none)) z3 (Nat.le_refl _) (grownBy_trans GP.out (World.grownBy_alloc _ _ none)) HN.out GP.out.size | with_reducible exact gotV_old OW.out z3 (Nat.le_refl _) GP.out NA.out.lies NA.out.low | (trace_state; fail)
    case rest =>
      obtain ⟨w6, rfl⟩ : ∃ x, x = wc := ⟨wc, rfl⟩
      obtain ⟨bg, ag, cg, rfl, rfl, hbg, hG, hOG, _, hg6⟩ := hcut
      have G6 := Lib.hid (grownBy_trans G4.out hg6)
      have A0 : Hid (StA w2 w6 bw bx bg w3.heap.size w5.heap.size p u ys a0 s0 xs0 aw ax ag cw cx cg) := ⟨HWx.out.grown hg6, HX.out.grown hg6, hG, OWx.out.kept hg6, (OX.out.kept hg6).l, hOG, OW0.out.upto, OX.out.l.upto, G3.out.size, hs34, G6.out⟩
      clear hG hOG hg6 KS HX OX HW HWx OWx OW0
      obtain ⟨x0, x1, x2⟩ := A0.out.v2.three
      obtain ⟨y0, y1, y2⟩ := A0.out.v0.three
      go_wp2_with fail
      refine (eqDesk_yes p (bs u) ag aw cg cw ys w6 A0.out.o2.at A0.out.o0.at).mono ?_
      rintro e w7 ⟨rfl, hg7⟩
      have A1 := Lib.hid (A0.out.grown hg7)
      clear hg7 x0 x1 x2 y0 y1 y2 A0
      go_wp2_with fail
      have KS : Hid (∀ w', w7.grownBy w' none → w'.cell? ⟨bx, 0, none⟩ = some (.int .i64 a0) ∧ w'.cell? ⟨bx, 1, none⟩ = some (.string s0) ∧ w'.cell? ⟨bx, 2, none⟩ = some (.slice ax xs0.length cx) ∧ w'.cell? ⟨b, 0, none⟩ = some (.int .i64 a0) ∧ w'.cell? ⟨b, 1, none⟩ = some (.string s0) ∧ w'.cell? ⟨b, 2, none⟩ = some (.slice r0 xs0.length cap0) ∧ w7.grownBy w' none) := fun w' g => ⟨(A1.out.v1.grown g).three.1, (A1.out.v1.grown g).three.2.1, (A1.out.v1.grown g).three.2.2, (HB2.out.grown (grownBy_trans A1.out.gr g)).three.1, (HB2.out.grown (grownBy_trans A1.out.gr g)).three.2.1, (HB2.out.grown (grownBy_trans A1.out.gr g)).three.2.2, g⟩
      go_region_held3 (fun w' => w'.cell? ⟨bx, 0, none⟩ = some (.int .i64 a0) ∧ w'.cell? ⟨bx, 1, none⟩ = some (.string s0) ∧ w'.cell? ⟨bx, 2, none⟩ = some (.slice ax xs0.length cx) ∧ w'.cell? ⟨b, 0, none⟩ = some (.int .i64 a0) ∧ w'.cell? ⟨b, 1, none⟩ = some (.string s0) ∧ w'.cell? ⟨b, 2, none⟩ = some (.slice r0 xs0.length cap0) ∧ w7.grownBy w' none) (first | with_reducible exact KS.out _ GP.out | exact KS.out _ (grownBy_drew (grownBy_refl _ none))) (first | (go_at_call 35; (with_reducible refine (ct _ (HL2.out.grown (grownBy_trans A1.out.gr (lastS7' (by assumption))))).mono ?_); rintro e wa ⟨a2, c2, rfl, o2, ga⟩; have GP := Lib.hid (grownBy_trans (lastS7' (by assumption)) ga); have OO := Lib.hid o2.at) | (go_at_call 36; (with_reducible refine (eqDesk_yes a0 s0 ax a2 cx c2 xs0 _ (A1.out.o1.at.grown (lastS7' (by assumption))) OO.out).mono ?_); rintro e wd ⟨rfl, gd⟩; have GP := Lib.hid (grownBy_trans (lastS7' (by assumption)) gd)))
      have A2 := Lib.hid (A1.out.grown GP.out)
      obtain ⟨x0, x1, x2⟩ := A2.out.v1.three
      have hp1 : ¬ (((1 + 2 * xs0.length : Nat) : Int) < 0) := by omega
      clear A1 KS
      obtain ⟨K1, hK1⟩ : ∃ K : Int, K = ((1 + 2 * xs0.length : Nat) : Int) := ⟨_, rfl⟩
      obtain ⟨K2, hK2⟩ : ∃ K : Int, K = ((1 + 2 * ys.length : Nat) : Int) := ⟨_, rfl⟩
      have cm1 : ∀ W, OwnL W w3.heap.size ax xs0 → Calls Try.prog 37 #[.agg #[.int .i64 a0, .string s0, .slice ax xs0.length cx], .int .i64 1] W fun e w' => e = .returned (.int .i64 K1) ∧ MarkedD ax 1 xs0.length W w' := fun W hW => by
        rw [hK1]; exact markDk_any a0 s0 1 w3.heap.size cx ax xs0 (by omega) (by omega) W hW
      have cm2 : ∀ W, OwnL W w5.heap.size ag ys → Calls Try.prog 37 #[.agg #[.int .i64 p, .string (bs u), .slice ag ys.length cg], .int .i64 1] W fun e w' => e = .returned (.int .i64 K2) ∧ MarkedD ag 1 ys.length W w' := fun W hW => by
        rw [hK2]; exact markDk_any p (bs u) 1 w5.heap.size cg ag ys (by omega) hyl W hW
      have ch2 : ∀ W, LdsAt W ag (mkRow 1 ys.length) → Calls Try.prog 38 #[.agg #[.int .i64 p, .string (bs u), .slice ag ys.length cg], .int .i64 1] W fun e w' => e = .returned (.int .i64 K2) ∧ W.grownBy w' none := fun W hW => by
        rw [hK2]; exact heldDk_any p (bs u) 1 ys.length cg ag (by omega) hyl W hW
      have hn1 : ¬ (K1 < 0) := by omega
      have hn2 : ¬ (K2 < 0) := by omega
      have hkk : (K2 != K2) = false := by simp
      clear hK1 hK2 hp1 hyl hx
      go_wp2_with fail
      refine (cm1 _ A2.out.o1).mono ?_
      rintro e w9 ⟨rfl, hM1⟩
      have B0 := Lib.hid (A2.out.mark hM1)
      obtain ⟨x0, x1, x2⟩ := B0.out.v2.three
      obtain ⟨y0, y1, y2⟩ := B0.out.v0.three
      clear hM1 A2 cm1
      go_wp2_with fail
      refine (eqDesk_yes p (bs u) ag aw cg cw ys w9 B0.out.o2.at B0.out.o0.at).mono ?_
      rintro e w10 ⟨rfl, hg10⟩
      have B1 := Lib.hid (B0.out.grown hg10)
      clear hg10 x0 x1 x2 y0 y1 y2 B0
      obtain ⟨x0, x1, x2⟩ := B1.out.v2.three
      go_wp2_with fail
      refine (cm2 _ B1.out.o2).mono ?_
      rintro e w11 ⟨rfl, hM2⟩
      have C0 := Lib.hid (B1.out.mark hM2)
      clear hM2 B1 cm2 x0 x1 x2
      obtain ⟨x0, x1, x2⟩ := C0.out.v2.three
      go_wp2_with fail
      refine (ch2 _ C0.out.m2).mono ?_
      rintro e w12 ⟨rfl, hg12⟩
      have C1 := Lib.hid (C0.out.grown hg12)
      clear hg12 C0 x0 x1 x2
      have KS : Hid (∀ w', w12.grownBy w' none → w'.cell? ⟨b, 0, none⟩ = some (.int .i64 a0) ∧ w'.cell? ⟨b, 1, none⟩ = some (.string s0) ∧ w'.cell? ⟨b, 2, none⟩ = some (.slice r0 xs0.length cap0) ∧ w'.cell? ⟨b + 1, 0, none⟩ = some (.int .i64 a1) ∧ w'.cell? ⟨b + 1, 1, none⟩ = some (.int .i64 b1) ∧ w'.cell? ⟨b + 1, 2, none⟩ = some (.string s1) ∧ w12.grownBy w' none) := fun w' g => ⟨(HB2.out.grown (grownBy_trans C1.out.gr g)).three.1, (HB2.out.grown (grownBy_trans C1.out.gr g)).three.2.1, (HB2.out.grown (grownBy_trans C1.out.gr g)).three.2.2, (HE2.out.grown (grownBy_trans C1.out.gr g)).three.1, (HE2.out.grown (grownBy_trans C1.out.gr g)).three.2.1, (HE2.out.grown (grownBy_trans C1.out.gr g)).three.2.2, g⟩
      have lb12 := (HB2.out.grown C1.out.gr).lt
      have le12 := (HE2.out.grown C1.out.gr).lt
      go_wp2_with fail
      go_cut [14, 15] (fun pv bv wc => GotV w12 p u ys (.bool ok) pv bv wc)
      case first =>
        go_region_held3 (fun w' => w'.cell? ⟨b, 0, none⟩ = some (.int .i64 a0) ∧ w'.cell? ⟨b, 1, none⟩ = some (.string s0) ∧ w'.cell? ⟨b, 2, none⟩ = some (.slice r0 xs0.length cap0) ∧ w'.cell? ⟨b + 1, 0, none⟩ = some (.int .i64 a1) ∧ w'.cell? ⟨b + 1, 1, none⟩ = some (.int .i64 b1) ∧ w'.cell? ⟨b + 1, 2, none⟩ = some (.string s1) ∧ w12.grownBy w' none) (first | with_reducible exact KS.out _ GP.out | exact KS.out _ (grownBy_drew (grownBy_refl _ none)) | exact KS.out _ (grownBy_drew (World.grownBy_alloc _ _ none)) | with_reducible exact KS.out _ (grownBy_trans GP.out (World.grownBy_alloc _ _ none)) | with_reducible exact KS.out _ (put3_grown _ GP.out NA.out.low _ _ _) | with_reducible exact KS.out _ (put3_grown _ (grownBy_trans GP.out (World.grownBy_alloc _ _ none)) GP.out.size _ _ _)) (first | (go_at_call 35; (with_reducible refine (ct _ (HL2.out.grown (grownBy_trans C1.out.gr (lastS7' (by assumption))))).mono ?_); rintro e wa ⟨a2, c2, rfl, o2, ga⟩; (first | (with_reducible have NA := Lib.hid (NA.out.more ga); obtain ⟨⟨⟨q0, q1, q2⟩, j0, j1, j2⟩, zl⟩ := NA.out.facts) | (with_reducible have NA := Lib.hid (newAt_0 ga); obtain ⟨⟨⟨q0, q1, q2⟩, j0, j1, j2⟩, zl⟩ := NA.out.facts) | (with_reducible have NA := Lib.hid (newAt_1 GP.out ga); obtain ⟨⟨⟨q0, q1, q2⟩, j0, j1, j2⟩, zl⟩ := NA.out.facts) | skip); have GP := Lib.hid (grownBy_trans (lastS7' (by assumption)) ga); have OO := Lib.hid o2) | (go_at_call 40; (with_reducible refine (toDeed_any a1 b1 s1 _).mono ?_); rintro e wb ⟨rfl, gb⟩; (first | (with_reducible have NA := Lib.hid (NA.out.more gb); obtain ⟨⟨⟨q0, q1, q2⟩, j0, j1, j2⟩, zl⟩ := NA.out.facts) | (with_reducible have NA := Lib.hid (newAt_0 gb); obtain ⟨⟨⟨q0, q1, q2⟩, j0, j1, j2⟩, zl⟩ := NA.out.facts) | (with_reducible have NA := Lib.hid (newAt_1 GP.out gb); obtain ⟨⟨⟨q0, q1, q2⟩, j0, j1, j2⟩, zl⟩ := NA.out.facts) | skip); have GP := Lib.hid (grownBy_trans (lastS7' (by assumption)) gb); (first | (with_reducible have OO := Lib.hid (OO.out.kept gb)) | (with_reducible have OO := Lib.hid ((OO.out.kept (World.grownBy_alloc _ _ none)).kept gb)))) | (go_at_call 26; (with_reducible refine (ci _ a2 c2 (by first | with_reducible exact OO.out.at | with_reducible exact (OO.out.kept (World.grownBy_alloc _ _ none)).at) OO.out.bare).mono ?_); rintro e wd ⟨a3, c3, rfl, o3, z3, gd⟩; (first | (with_reducible have NA := Lib.hid (NA.out.more gd); obtain ⟨⟨⟨q0, q1, q2⟩, j0, j1, j2⟩, zl⟩ := NA.out.facts) | (with_reducible have NA := Lib.hid (newAt_0 gd); obtain ⟨⟨⟨q0, q1, q2⟩, j0, j1, j2⟩, zl⟩ := NA.out.facts) | (with_reducible have NA := Lib.hid (newAt_1 GP.out gd); obtain ⟨⟨⟨q0, q1, q2⟩, j0, j1, j2⟩, zl⟩ := NA.out.facts) | skip); have GP := Lib.hid (grownBy_trans (lastS7' (by assumption)) gd); have OW := Lib.hid (o3.mono (base' := w12.heap.size) (sizeS7' (by assumption))); have HN := Lib.hid (CellsAt.new wd #[.int .i64 0, .string ⟨#[]⟩, .slice none 0 0] 31); obtain ⟨⟨m0, m1, m2⟩, m3, m4, m5⟩ := dk_facts HN.out; have nl := HN.out.lt))
        all_goals go_wp2_with fail
        all_goals go_meet
        all_goals first | with_reducible exact gotV_new OW.out z3 (Nat.le_refl _) GP.out | with_reducible exact gotV_old (OW.out.kept (World.grownBy_alloc _ _ none)) z3 (Nat.le_refl _) (grownBy_trans GP.out (World.grownBy_alloc _ _ none)) HN.out GP.out.size | with_reducible exact gotV_old OW.out z3 (Nat.le_refl _) GP.out NA.out.lies NA.out.low | (trace_state; fail)
      case rest =>
        obtain ⟨w13, rfl⟩ : ∃ x, x = wc := ⟨wc, rfl⟩
        obtain ⟨bh, ah, ck, rfl, rfl, _, hH, hOH, _, hg13⟩ := hcut
        have C2 := Lib.hid (C1.out.grown hg13)
        have HOH := Lib.hid hOH.at
        obtain ⟨x0, x1, x2⟩ := hH.three
        obtain ⟨y0, y1, y2⟩ := C2.out.v0.three
        clear hg13 hOH C1 KS hH
        go_wp2_with fail
        refine (eqDesk_yes p (bs u) ah aw ck cw ys w13 HOH.out C2.out.o0.at).mono ?_
        rintro e w14 ⟨rfl, hg14⟩
        have C3 := Lib.hid (C2.out.grown hg14)
        clear hg14 x0 x1 x2 y0 y1 y2 C2
        obtain ⟨x0, x1, x2⟩ := C3.out.v2.three
        go_wp2_with fail
        refine (ch2 _ C3.out.m2).mono ?_
        rintro e w15 ⟨rfl, hg15⟩
        go_wp2_with fail
        go_ret
        exact ⟨rfl, below_of (grownBy_trans G2.out (C3.out.grown hg15).gr)⟩

end Go.Proofs.Ytnkebgkocpeonaa

/-
  The walk of FnExactDeskRun.
-/
namespace Go.Proofs.Ytnkebgkocpeonaa
open Go.RowKit

/-- A row of deeds in a block of the call's own, marked; desks lie elsewhere. -/
theorem Own3.rowAt {w w' : World} {base cap k : Nat} {a : Option Addr} {l : List Dd} (h : Own3 w base a cap l) (hM : Marked3 a k l.length w w') : ∃ row : Option Nat, (∀ g, row = some g → base ≤ g ∧ g < w.heap.size ∧ ∃ cur, w.heap[g]? = some (.cells cur 39 (0, 0))) ∧ w.grownBy w' row := by
  obtain ⟨_, row, hr, hg⟩ := hM
  refine ⟨row, fun g e => ?_, hg⟩
  obtain ⟨hn, x, hx, hxg⟩ := hr g e
  rcases h.curs with h0 | ⟨g', cur, ha, hb, hh, _⟩
  · rw [h0] at hn; simp at hn
  · rw [ha] at hx
    cases hx
    cases hxg
    exact ⟨hb, (Array.getElem?_eq_some_iff.1 hh).1, cur, hh⟩
/-- What a mark of deeds leaves of desks and of rows of pairs. -/
def DRow (w : World) (base : Nat) (row : Option Nat) : Prop := ∀ g, row = some g → base ≤ g ∧ g < w.heap.size ∧ ∃ cur, w.heap[g]? = some (.cells cur 39 (0, 0))
theorem CellsAt.deeds {w w' : World} {base b : Nat} {row : Option Nat} {vs : Array Value} (hB : CellsAt w b vs 31) (hr : DRow w base row) (hg : w.grownBy w' row) : CellsAt w' b vs 31 := by
  refine hB.kept hg fun e => ?_
  obtain ⟨_, _, cur, hc⟩ := hr _ e.symm
  unfold CellsAt at hB
  rw [hB] at hc
  simp at hc
theorem OwnL.deeds {w w' : World} {base base2 : Nat} {a : Option Addr} {xs : List Ld} {row : Option Nat} (o : OwnL w base2 a xs) (hr : DRow w base row) (hg : w.grownBy w' row) : OwnL w' base2 a xs := by
  refine ⟨o.1, ?_⟩
  by_cases hy : xs = []
  · exact .inl hy
  · obtain ⟨g, off, cur, hb, hbb, hh, hc⟩ := o.2.resolve_left hy
    refine .inr ⟨g, off, cur, hb, hbb, (hg.block g (Array.getElem?_eq_some_iff.1 hh).1 fun e => ?_).trans hh, hc⟩
    obtain ⟨_, _, cur2, hc2⟩ := hr _ e.symm
    rw [hh] at hc2
    simp at hc2
theorem grown_deeds {w0 w w' : World} {base : Nat} {row : Option Nat} (g : w0.grownBy w none) (hb : w0.heap.size ≤ base) (hr : DRow w base row) (hg : w.grownBy w' row) : w0.grownBy w' none :=
  ⟨hg.os.trans g.os, hg.tape.trans g.tape, hg.output.trans g.output, Nat.le_trans g.size hg.size, fun k hk hn => (hg.block k (Nat.lt_of_lt_of_le hk g.size) fun e => by
    have := (hr k e.symm).1
    omega).trans (g.block k hk hn)⟩
theorem StB.deeds {w0 W W' : World} {b0 b2 s1 s2 base : Nat} {p : Int} {u : List UInt8} {ys : List Ld} {a0 a2 : Option Addr} {c0 c2 : Nat} {row : Option Nat} (h : StB w0 W b0 b2 s1 s2 p u ys a0 a2 c0 c2) (hb : w0.heap.size ≤ base) (hr : DRow W base row) (hg : W.grownBy W' row) : StB w0 W' b0 b2 s1 s2 p u ys a0 a2 c0 c2 :=
  ⟨h.v0.deeds hr hg, h.v2.deeds hr hg, h.o0.deeds hr hg, h.o2.deeds hr hg, h.u0, h.h1, h.h2, grown_deeds h.gr hb hr hg⟩
/-- The marks of a row of pairs leave a row of deeds. -/
theorem Own3.mark {w w' : World} {base base2 cap : Nat} {a b : Option Addr} {xs : List Ld} {l : List Dd} {row : Option Nat} (o : Own3 w base2 b cap l) (h : OwnL w base a xs) (hr : RowAt row a xs.length) (hg : w.grownBy w' row) : Own3 w' base2 b cap l :=
  World.ownsRow.kept o hg (by
    cases hq : (Value.slice b l.length cap).ownBlock with
    | none => exact .inl rfl
    | some g =>
      refine .inr fun e => ?_
      obtain ⟨_, _, cur, hc⟩ := h.row hr e.symm
      rcases o.curs with h0 | ⟨g', cur2, hb2, _, hh, _⟩
      · rcases o.2 with ⟨hv, _⟩ | ⟨g2, c2, cur2, hv, _, hh2, _⟩
        · rw [hv] at hq; cases hq
        · rw [hv] at hq; cases hq; rw [hh2] at hc; simp at hc
      · subst hb2
        cases hq
        rw [hh] at hc
        simp at hc)
theorem runR_long {d : Dk} {l : List Dd} {p : Int} {u : List UInt8} {ys : List Ld} {n : Nat} (h : runR d l = (((p, u), ys), n)) : ys.length ≤ 8 := by
  unfold runR at h
  split at h
  · rename_i hd
    have := (dkB_of (run_ok l hd.1)).2.2
    rw [h] at this
    exact this
  · cases h; simp

set_option maxRecDepth 100000 in
set_option maxHeartbeats 16000000 in
theorem FnExactDeskRun_walk (a0 : Int) (s0 : ByteArray) (r0 : Option Addr) (cap0 : Nat) (xs0 : List Ld) (r1 : Option Addr) (cap1 : Nat) (ds1 : List Dd) (w : World) (z0 : s0.size ≤ maxLen) (l0 : LdsAt w r0 xs0) (_k0 : r0 = none → cap0 = 0) (q0 : ∀ x ∈ xs0, x.2.length ≤ maxLen) (l1 : DdsAt w r1 ds1) (_k1 : r1 = none → cap1 = 0) (q1 : ∀ x ∈ ds1, x.2.2.length ≤ maxLen) :
    Calls Try.prog 12 #[.agg #[.int .i64 a0, .string s0, .slice r0 xs0.length cap0], .slice r1 ds1.length cap1] w fun e w' => e = .returned (.bool true) ∧ Below w.heap.size w w' := by
  have g0 : w.grownBy (w.alloc (.cells #[.int .i64 a0, .string s0, .slice r0 xs0.length cap0] 55)) none := World.grownBy_alloc w _ none
  have HB := Lib.hid (CellsAt.new w #[.int .i64 a0, .string s0, .slice r0 xs0.length cap0] 55)
  have cz := szDesk_any a0 s0 r0 cap0 xs0 (w.alloc (.cells #[.int .i64 a0, .string s0, .slice r0 xs0.length cap0] 55)) (l0.grown g0) z0 q0
  have HL := Lib.hid (l0.grown g0)
  have HQ := Lib.hid (l1.grown g0)
  have HQ1 := Lib.hid q1
  have G0 := Lib.hid g0
  clear l0 g0 l1 q1
  go_enter Try.func12, Try.ntmps12
  go_wp2_with fail
  refine cz.mono ?_
  rintro e w1 ⟨v, rfl, hv, hg1⟩
  clear cz
  by_cases hneg : v < 0
  · clear hv
    go_wp2_with fail
    go_ret
    exact ⟨rfl, below_of (grownBy_trans G0.out hg1)⟩
  have hx : xs0.length ≤ 1048576 := by
    rcases hv with q | q
    · exact absurd q hneg
    · omega
  have hvv : 0 ≤ v ∧ v ≤ 1048576 := by
    rcases hv with q | q
    · exact absurd q hneg
    · omega
  clear hv hneg
  have HB1 := Lib.hid (HB.out.grown hg1)
  have HL1 := Lib.hid (HL.out.grown hg1)
  have HD1 := Lib.hid (HQ.out.grown hg1)
  have G1 := Lib.hid (grownBy_trans G0.out hg1)
  clear hg1 HB HL G0 HQ
  obtain ⟨b, hb⟩ : ∃ b, b = w.heap.size := ⟨_, rfl⟩
  rw [← hb] at HB1 ⊢
  clear hb
  obtain ⟨d0, d1, d2⟩ := HB1.out.three
  have hvp : 0 ≤ v := hvv.1
  go_wp2_with fail
  refine (szDeedS_any v r1 cap1 ds1 _ hvv HD1.out HQ1.out).mono ?_
  rintro e w2 ⟨v2, rfl, hv2, hg2⟩
  by_cases hs : v2 < 0
  · clear hv2
    go_wp2_with fail
    go_ret
    exact ⟨rfl, below_of (grownBy_trans G1.out hg2)⟩
  obtain ⟨hsp, _, hdl, hdt⟩ := hv2.resolve_left hs
  have HB2 := Lib.hid (HB1.out.grown hg2)
  have HL2 := Lib.hid (HL1.out.grown hg2)
  have HD2 := Lib.hid (HD1.out.grown hg2)
  have G2 := Lib.hid (grownBy_trans G1.out hg2)
  have HT := Lib.hid (show ∀ x ∈ ds1, x.2.2.length ≤ 4000000 from fun x hx => by have := hdt x hx; omega)
  clear hg2 HB1 HL1 HD1 G1 d0 d1 d2 hvv hvp hv2 hdt HQ1
  obtain ⟨⟨⟨⟨p, u⟩, ys⟩, n⟩, hR⟩ : ∃ R, R = runR ((a0, bl s0), xs0) ds1 := ⟨_, rfl⟩
  have hyl : ys.length ≤ 10000000 := by have := runR_long hR.symm; omega
  have ct : ∀ W, LdsAt W r0 xs0 → Calls Try.prog 35 #[.agg #[.int .i64 a0, .string s0, .slice r0 xs0.length cap0]] W fun e w' => ∃ a' cap', e = .returned (.agg #[.int .i64 a0, .string s0, .slice a' xs0.length cap']) ∧ Own2 w' W.heap.size a' cap' xs0 ∧ W.grownBy w' none := fun W h => toDesk_any a0 s0 r0 cap0 xs0 (by omega) W h
  have cs : ∀ W, DdsAt W r1 ds1 → Calls Try.prog 42 #[.slice r1 ds1.length cap1] W (DdsPost ds1 W) := fun W h => toDeedS_any r1 cap1 ds1 (by omega) W h
  have cd : ∀ W (a' b' : Option Addr) (cap' capb : Nat), LdsAt W a' xs0 → (a' = none → cap' = 0) → DdsAt W b' ds1 → Calls Try.prog 31 #[.agg #[.int .i64 a0, .string s0, .slice a' xs0.length cap'], .slice b' ds1.length capb] W (RunZ p u ys (.int .i64 (n : Int)) W) := fun W a' b' cap' capb h h0 hd => by
    have := srun_any ((a0, bl s0), xs0) ds1 a' b' cap' capb W h h0 hd HT.out
    rw [← hR] at this
    exact this
  have ci : ∀ W (a' b' : Option Addr) (cap' capb : Nat), LdsAt W a' xs0 → (a' = none → cap' = 0) → DdsAt W b' ds1 → Calls Try.prog 30 #[.agg #[.int .i64 a0, .string s0, .slice a' xs0.length cap'], .slice b' ds1.length capb] W (RunZ p u ys (.int .i64 (n : Int)) W) := fun W a' b' cap' capb h h0 hd => by
    have := irun_any ((a0, bl s0), xs0) ds1 a' b' cap' capb W h h0 hd HT.out
    rw [← hR] at this
    exact this
  have hvv : ((n : Int) != (n : Int)) = false := by simp
  clear hR z0 q0
  obtain ⟨d0, d1, d2⟩ := HB2.out.three
  go_wp2_with fail
  refine (ct _ HL2.out).mono ?_
  rintro e wa ⟨a2, c2, rfl, o2, ga⟩
  clear d0 d1 d2
  go_wp2_with fail
  refine (cs _ (HD2.out.grown ga)).mono ?_
  rintro e wb ⟨e2, k2, rfl, o3, gb⟩
  go_wp2_with fail
  refine (cd _ a2 e2 c2 k2 (o2.kept gb).at o2.bare o3.at).mono ?_
  rintro e w3' ⟨aw, cw, rfl, ow, _, gd⟩
  have gg := grownBy_trans ga (grownBy_trans gb gd)
  have gV := World.grownBy_alloc w3' (.cells #[.int .i64 p, .string (bs u), .slice aw ys.length cw] 31) none
  have HW := Lib.hid (CellsAt.new w3' #[.int .i64 p, .string (bs u), .slice aw ys.length cw] 31)
  have OW0 := Lib.hid ((ow.mono (base' := w2.heap.size) (grownBy_trans ga gb).size).kept gV)
  have G3 := Lib.hid (grownBy_trans gg gV)
  clear o2 o3 ow ga gb gd gg gV cd
  obtain ⟨d0, d1, d2⟩ := (HB2.out.grown G3.out).three
  go_wp2_with fail
  generalize w3'.alloc (.cells #[.int .i64 p, .string (bs u), .slice aw ys.length cw] 31) = w3 at *
  generalize w3'.heap.size = bw at *
  refine (ct _ (HL2.out.grown G3.out)).mono ?_
  rintro e w4 ⟨ax, cx, rfl, ox, hg4⟩
  have gX := World.grownBy_alloc w4 (.cells #[.int .i64 a0, .string s0, .slice ax xs0.length cx] 31) none
  have HX := Lib.hid (CellsAt.new w4 #[.int .i64 a0, .string s0, .slice ax xs0.length cx] 31)
  have OX := Lib.hid (ox.kept gX)
  have G4 := Lib.hid (grownBy_trans G3.out (grownBy_trans hg4 gX))
  have HWx := Lib.hid (HW.out.grown (grownBy_trans hg4 gX))
  have OWx := Lib.hid (OW0.out.kept (grownBy_trans hg4 gX))
  have hs34 : w3.heap.size ≤ (w4.alloc (.cells #[.int .i64 a0, .string s0, .slice ax xs0.length cx] 31)).heap.size := (grownBy_trans hg4 gX).size
  clear ox hg4 d0 d1 d2 gX
  go_wp2_with fail
  generalize w4.alloc (.cells #[.int .i64 a0, .string s0, .slice ax xs0.length cx] 31) = w5 at *
  generalize w4.heap.size = bx at *
  refine (cs _ (HD2.out.grown G4.out)).mono ?_
  rintro e w5b ⟨e1, k1, rfl, o1, hg5⟩
  have O1 := Lib.hid o1
  have G5 := Lib.hid (grownBy_trans G4.out hg5)
  obtain ⟨x0, x1, x2⟩ := (HX.out.grown hg5).three
  have s5 := hg5.size
  have HX5 := Lib.hid (HX.out.grown hg5)
  have OX5 := Lib.hid (OX.out.kept hg5)
  have HW5 := Lib.hid (HWx.out.grown hg5)
  have OW5 := Lib.hid (OWx.out.kept hg5)
  clear o1 hg5
  go_wp2_with fail
  refine (ci _ ax e1 cx k1 OX5.out.at OX5.out.bare O1.out.at).mono ?_
  rintro e w6' ⟨ag, cg, rfl, og, _, hg6'⟩
  have gV := World.grownBy_alloc w6' (.cells #[.int .i64 p, .string (bs u), .slice ag ys.length cg] 31) none
  have hg6 := grownBy_trans hg6' gV
  have hG := CellsAt.new w6' #[.int .i64 p, .string (bs u), .slice ag ys.length cg] 31
  have hOG := og.kept gV
  have G6 := Lib.hid (grownBy_trans G5.out hg6)
  have A0 : Hid (StA w2 (w6'.alloc (.cells #[.int .i64 p, .string (bs u), .slice ag ys.length cg] 31)) bw bx w6'.heap.size w3.heap.size w5b.heap.size p u ys a0 s0 xs0 aw ax ag cw cx cg) := ⟨HW5.out.grown hg6, HX5.out.grown hg6, hG, OW5.out.kept hg6, (OX5.out.kept hg6).l, hOG, OW0.out.upto, OX5.out.l.upto, G3.out.size, Nat.le_trans hs34 s5, G6.out⟩
  have O6 := Lib.hid (O1.out.kept hg6)
  have hb5 : w2.heap.size ≤ w5.heap.size := G4.out.size
  clear hG hOG hg6 hg6' gV og HX OX HW HWx OWx OW0 HX5 OX5 HW5 OW5 O1 x0 x1 x2
  obtain ⟨x0, x1, x2⟩ := A0.out.v2.three
  obtain ⟨y0, y1, y2⟩ := A0.out.v0.three
  go_wp2_with fail
  generalize w6'.alloc (.cells #[.int .i64 p, .string (bs u), .slice ag ys.length cg] 31) = w6 at *
  generalize w6'.heap.size = bg at *
  refine (eqDesk_yes p (bs u) ag aw cg cw ys w6 A0.out.o2.at A0.out.o0.at).mono ?_
  rintro e w7 ⟨rfl, hg7⟩
  have A1 := Lib.hid (A0.out.grown hg7)
  have O7 := Lib.hid (O6.out.kept hg7)
  clear hg7 x0 x1 x2 y0 y1 y2 A0 O6
  go_wp2_with fail
  have KS : Hid (∀ w', w7.grownBy w' none → w'.cell? ⟨bx, 0, none⟩ = some (.int .i64 a0) ∧ w'.cell? ⟨bx, 1, none⟩ = some (.string s0) ∧ w'.cell? ⟨bx, 2, none⟩ = some (.slice ax xs0.length cx) ∧ w'.cell? ⟨b, 0, none⟩ = some (.int .i64 a0) ∧ w'.cell? ⟨b, 1, none⟩ = some (.string s0) ∧ w'.cell? ⟨b, 2, none⟩ = some (.slice r0 xs0.length cap0) ∧ w7.grownBy w' none) := fun w' g => ⟨(A1.out.v1.grown g).three.1, (A1.out.v1.grown g).three.2.1, (A1.out.v1.grown g).three.2.2, (HB2.out.grown (grownBy_trans A1.out.gr g)).three.1, (HB2.out.grown (grownBy_trans A1.out.gr g)).three.2.1, (HB2.out.grown (grownBy_trans A1.out.gr g)).three.2.2, g⟩
  go_region_held3 (fun w' => w'.cell? ⟨bx, 0, none⟩ = some (.int .i64 a0) ∧ w'.cell? ⟨bx, 1, none⟩ = some (.string s0) ∧ w'.cell? ⟨bx, 2, none⟩ = some (.slice ax xs0.length cx) ∧ w'.cell? ⟨b, 0, none⟩ = some (.int .i64 a0) ∧ w'.cell? ⟨b, 1, none⟩ = some (.string s0) ∧ w'.cell? ⟨b, 2, none⟩ = some (.slice r0 xs0.length cap0) ∧ w7.grownBy w' none) (first | with_reducible exact KS.out _ GP.out | exact KS.out _ (grownBy_drew (grownBy_refl _ none))) (first | (go_at_call 35; (with_reducible refine (ct _ (HL2.out.grown (grownBy_trans A1.out.gr (lastS7' (by assumption))))).mono ?_); rintro e wa ⟨a2, c2, rfl, o2, ga⟩; have GP := Lib.hid (grownBy_trans (lastS7' (by assumption)) ga); have OO := Lib.hid o2.at) | (go_at_call 36; (with_reducible refine (eqDesk_yes a0 s0 ax a2 cx c2 xs0 _ (A1.out.o1.at.grown (lastS7' (by assumption))) OO.out).mono ?_); rintro e wd ⟨rfl, gd⟩; have GP := Lib.hid (grownBy_trans (lastS7' (by assumption)) gd)))
  have A2 := Lib.hid (A1.out.grown GP.out)
  have O8 := Lib.hid (O7.out.kept GP.out)
  clear A1 KS O7
  go_wp2_with fail
  refine (cs _ (HD2.out.grown A2.out.gr)).mono ?_
  rintro e w8a ⟨e3, k3, rfl, o3, g8a⟩
  have A3 := Lib.hid (A2.out.grown g8a)
  have O9 := Lib.hid (O8.out.kept g8a)
  clear A2 O8 g8a
  go_wp2_with fail
  refine (eqDeedS_yes e1 e3 k1 k3 ds1 _ O9.out.at o3.at).mono ?_
  rintro e w8 ⟨rfl, g8⟩
  have A4 := Lib.hid (A3.out.grown g8)
  have OA := Lib.hid (O9.out.kept g8)
  clear A3 O9 g8 o3
  obtain ⟨x0, x1, x2⟩ := A4.out.v1.three
  obtain ⟨K0, hK0⟩ : ∃ K : Nat, K = 1 + 2 * xs0.length := ⟨_, rfl⟩
  obtain ⟨K1, hK1⟩ : ∃ K : Int, K = ((K0 + 3 * ds1.length : Nat) : Int) := ⟨_, rfl⟩
  obtain ⟨K2, hK2⟩ : ∃ K : Int, K = ((1 + 2 * ys.length : Nat) : Int) := ⟨_, rfl⟩
  have cm1 : ∀ W, OwnL W w3.heap.size ax xs0 → Calls Try.prog 37 #[.agg #[.int .i64 a0, .string s0, .slice ax xs0.length cx], .int .i64 1] W fun e w' => e = .returned (.int .i64 (K0 : Int)) ∧ MarkedD ax 1 xs0.length W w' := fun W hW => by
    rw [hK0]; exact markDk_any a0 s0 1 w3.heap.size cx ax xs0 (by omega) (by omega) W hW
  have cmd : ∀ W, Own3 W w5.heap.size e1 k1 ds1 → Calls Try.prog 44 #[.slice e1 ds1.length k1, .int .i64 (K0 : Int)] W fun e w' => e = .returned (.int .i64 K1) ∧ Marked3 e1 K0 ds1.length W w' := fun W hW => by
    rw [hK1]; exact markDeedS_any K0 w5.heap.size k1 e1 ds1 (by omega) (by omega) W hW
  have cm2 : ∀ W, OwnL W w5b.heap.size ag ys → Calls Try.prog 37 #[.agg #[.int .i64 p, .string (bs u), .slice ag ys.length cg], .int .i64 1] W fun e w' => e = .returned (.int .i64 K2) ∧ MarkedD ag 1 ys.length W w' := fun W hW => by
    rw [hK2]; exact markDk_any p (bs u) 1 w5b.heap.size cg ag ys (by omega) hyl W hW
  have ch2 : ∀ W, LdsAt W ag (mkRow 1 ys.length) → Calls Try.prog 38 #[.agg #[.int .i64 p, .string (bs u), .slice ag ys.length cg], .int .i64 1] W fun e w' => e = .returned (.int .i64 K2) ∧ W.grownBy w' none := fun W hW => by
    rw [hK2]; exact heldDk_any p (bs u) 1 ys.length cg ag (by omega) hyl W hW
  have hn1 : ¬ (K1 < 0) := by omega
  have hn2 : ¬ (K2 < 0) := by omega
  have hkk : (K2 != K2) = false := by simp
  clear hK0 hK1 hK2 hyl hx hdl
  go_wp2_with fail
  refine (cm1 _ A4.out.o1).mono ?_
  rintro e w9 ⟨rfl, hM1⟩
  have B0 := Lib.hid (A4.out.mark hM1)
  have OB : Hid (Own3 w9 w5.heap.size e1 k1 ds1) := Lib.hid (by
    obtain ⟨_, row, hr, hg⟩ := hM1
    exact OA.out.mark A4.out.o1 hr hg)
  clear hM1 A4 cm1 x0 x1 x2 OA
  go_wp2_with fail
  refine (cmd _ OB.out).mono ?_
  rintro e w9b ⟨rfl, hM3⟩
  have B1 : Hid (StB w2 w9b bw bg w3.heap.size w5b.heap.size p u ys aw ag cw cg) := Lib.hid (by
    obtain ⟨row, hr, hg⟩ := OB.out.rowAt hM3
    exact B0.out.deeds hb5 hr hg)
  clear hM3 B0 OB cmd
  obtain ⟨x0, x1, x2⟩ := B1.out.v2.three
  obtain ⟨y0, y1, y2⟩ := B1.out.v0.three
  go_wp2_with fail
  refine (eqDesk_yes p (bs u) ag aw cg cw ys _ B1.out.o2.at B1.out.o0.at).mono ?_
  rintro e w10 ⟨rfl, hg10⟩
  have B2 := Lib.hid (B1.out.grown hg10)
  clear hg10 x0 x1 x2 y0 y1 y2 B1
  obtain ⟨x0, x1, x2⟩ := B2.out.v2.three
  go_wp2_with fail
  refine (cm2 _ B2.out.o2).mono ?_
  rintro e w11 ⟨rfl, hM2⟩
  have C0 := Lib.hid (B2.out.mark hM2)
  clear hM2 B2 cm2 x0 x1 x2
  obtain ⟨x0, x1, x2⟩ := C0.out.v2.three
  go_wp2_with fail
  refine (ch2 _ C0.out.m2).mono ?_
  rintro e w12 ⟨rfl, hg12⟩
  have C1 := Lib.hid (C0.out.grown hg12)
  clear hg12 C0 x0 x1 x2
  obtain ⟨d0, d1, d2⟩ := (HB2.out.grown C1.out.gr).three
  go_wp2_with fail
  refine (ct _ (HL2.out.grown C1.out.gr)).mono ?_
  rintro e wa2 ⟨a2, c2, rfl, o2, ga⟩
  have C2 := Lib.hid (C1.out.grown ga)
  clear d0 d1 d2 ga C1
  go_wp2_with fail
  refine (cs _ (HD2.out.grown C2.out.gr)).mono ?_
  rintro e wb2 ⟨e2, k2, rfl, o3, gb⟩
  have C3 := Lib.hid (C2.out.grown gb)
  go_wp2_with fail
  refine (ci _ a2 e2 c2 k2 (o2.kept gb).at o2.bare o3.at).mono ?_
  rintro e wc2 ⟨ah, ck, rfl, oh, _, gd⟩
  have gV := World.grownBy_alloc wc2 (.cells #[.int .i64 p, .string (bs u), .slice ah ys.length ck] 31) none
  have C4 := Lib.hid (C3.out.grown (grownBy_trans gd gV))
  have HOH := Lib.hid (oh.kept gV).at
  obtain ⟨x0, x1, x2⟩ := (CellsAt.new wc2 #[.int .i64 p, .string (bs u), .slice ah ys.length ck] 31).three
  obtain ⟨y0, y1, y2⟩ := C4.out.v0.three
  clear o2 o3 gb gd gV oh C2 C3
  go_wp2_with fail
  refine (eqDesk_yes p (bs u) ah aw ck cw ys _ HOH.out C4.out.o0.at).mono ?_
  rintro e w14 ⟨rfl, hg14⟩
  have C5 := Lib.hid (C4.out.grown hg14)
  clear hg14 x0 x1 x2 y0 y1 y2 C4
  obtain ⟨x0, x1, x2⟩ := C5.out.v2.three
  go_wp2_with fail
  refine (ch2 _ C5.out.m2).mono ?_
  rintro e w15 ⟨rfl, hg15⟩
  go_wp2_with fail
  go_ret
  exact ⟨rfl, below_of (grownBy_trans G2.out (C5.out.grown hg15).gr)⟩

end Go.Proofs.Ytnkebgkocpeonaa
