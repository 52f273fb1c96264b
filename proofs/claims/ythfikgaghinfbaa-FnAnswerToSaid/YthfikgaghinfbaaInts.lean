/-
  Slices of integers that a call made or was handed: what is read of them (sameInts, eqIntS, ascend, heldIntS), what is written into one that the law owns (markIntS).
-/
import Derived.Test.YthfikgaghinfbaaBase
import Derived.BigQuiet
import Derived.Deep.QuietTactic
import Derived.OwnWalk
import Derived.Laws.OwnMore
import Derived.LoopTactic
namespace Go.Proofs.Ythfikgaghinfbaa
open Go.RowKit

def IntsAt (w : World) (a : Option Addr) (zs : List Int) : Prop :=
  zs.length ≤ maxLen ∧ (zs = [] ∨ ∃ b off, a = some ⟨b, off, none⟩ ∧ b < w.heap.size ∧ ∀ i, i < zs.length → w.cell? ⟨b, off + i, none⟩ = some (.int .i64 (zs.getD i 0)))

theorem IntsAt.grown {w w' : World} {a : Option Addr} {zs : List Int} (h : IntsAt w a zs) (hg : w.grownBy w' none) : IntsAt w' a zs := by
  refine ⟨h.1, ?_⟩
  rcases h.2 with h | ⟨b, off, ha, hb, hc⟩
  · exact .inl h
  · exact .inr ⟨b, off, ha, Nat.lt_of_lt_of_le hb hg.size, fun i hi => (World.cell?_of_block (w := w) (a := ⟨b, off + i, none⟩) (hg.block b hb (by simp))).trans (hc i hi)⟩

/-- Behind a call that made memory, a row of an older block reads as before. -/
theorem IntsAt.kept {w w' : World} {a : Option Addr} {zs : List Int} {row : Option Nat} (h : IntsAt w a zs) (hg : w.grownBy w' row) (hne : ∀ x, a = some x → some x.block ≠ row) : IntsAt w' a zs := by
  refine ⟨h.1, ?_⟩
  rcases h.2 with h | ⟨b, off, ha, hb, hc⟩
  · exact .inl h
  · exact .inr ⟨b, off, ha, Nat.lt_of_lt_of_le hb hg.size, fun i hi => (World.cell?_of_block (w := w) (a := ⟨b, off + i, none⟩) (hg.block b hb (hne _ ha))).trans (hc i hi)⟩

/-- A row of integers that the call owns: its block lies at base or above. -/
def OwnI (w : World) (base : Nat) (a : Option Addr) (cap : Nat) (zs : List Int) : Prop :=
  w.ownsRow base 3 1 (.slice a zs.length cap) zs.length (zs.map (Value.int .i64))

theorem ownI_shape {w : World} {base n : Nat} {v : Value} {zs : List Int} (h : w.ownsRow base 3 1 v n (zs.map (Value.int .i64))) : ∃ a cap, v = .slice a zs.length cap ∧ n = zs.length ∧ OwnI w base a cap zs := by
  have hl := h.1
  simp at hl
  subst hl
  rcases h.2 with ⟨rfl, h0⟩ | ⟨g, cap, cur, rfl, h1⟩
  · exact ⟨none, 0, by rw [h0], rfl, by unfold OwnI; rw [h0]; rw [h0] at h; exact h⟩
  · exact ⟨some ⟨g, 0, none⟩, cap, rfl, rfl, h⟩

theorem OwnI.at {w : World} {base : Nat} {a : Option Addr} {cap : Nat} {zs : List Int} (h : OwnI w base a cap zs) (hm : zs.length ≤ maxLen) : IntsAt w a zs := by
  refine ⟨hm, ?_⟩
  rcases h.2 with ⟨_, h0⟩ | ⟨g, c, cur, he, hb, hg, h1⟩
  · exact .inl (List.length_eq_zero_iff.1 h0)
  · simp only [Value.slice.injEq, true_and] at he
    obtain ⟨rfl, rfl⟩ := he
    refine .inr ⟨g, 0, rfl, (Array.getElem?_eq_some_iff.1 hg).1, fun i hi => ?_⟩
    have hc := World.ownsRow.cellAt h i (by omega)
    rw [Nat.zero_add, hc]
    simp [hi]

theorem OwnI.kept {w w' : World} {base : Nat} {a : Option Addr} {cap : Nat} {zs : List Int} (h : OwnI w base a cap zs) (hg : w.grownBy w' none) : OwnI w' base a cap zs :=
  World.ownsRow.kept h hg (by cases (Value.slice a zs.length cap).ownBlock <;> simp)

theorem OwnI.nil (w : World) (base : Nat) : OwnI w base none 0 [] := World.ownsRow_nil _ _ _ _

/-- Growth by a row that the call owns. -/
theorem grownBy_row {a b c : World} {base : Nat} {v : Value} {n : Nat} {xs : List Value} {e : TypeId} (h : a.grownBy b none) (ho : b.ownsRow base e 1 v n xs) (hb : a.heap.size ≤ base) (k : b.grownBy c v.ownBlock) : a.grownBy c none :=
  ⟨k.os.trans h.os, k.tape.trans h.tape, k.output.trans h.output, Nat.le_trans h.size k.size, fun i hi _ => by
    refine (k.block i (Nat.lt_of_lt_of_le hi h.size) fun e => ?_).trans (h.block i hi (by simp))
    have := World.ownsRow.lt ho i e.symm
    omega⟩

/-- What a function that answers with a new slice of integers leaves. -/
def IntsPost (zs : List Int) (w : World) (e : Ending) (w' : World) : Prop :=
  ∃ a cap, e = .returned (.slice a zs.length cap) ∧ OwnI w' w.heap.size a cap zs ∧ w.grownBy w' none

/-! Two rows, the same or not. -/
def sameL (x y : List Int) : Bool := x == y
theorem sameL_self (x : List Int) : sameL x x = true := by unfold sameL; simp
def upTo (x y : List Int) (k : Nat) : Prop := ∀ j, j < k → x.getD j 0 = y.getD j 0
theorem upTo_0 (x y : List Int) : upTo x y 0 := fun _ h => absurd h (by omega)
theorem upTo_next {x y : List Int} {k : Nat} (h : upTo x y k) (e : x.getD k 0 = y.getD k 0) : upTo x y (k + 1) := fun j hj => by
  by_cases q : j = k
  · rw [q]; exact e
  · exact h j (by omega)
theorem sameL_all {x y : List Int} (hl : x.length = y.length) (h : upTo x y x.length) : sameL x y = true := by
  unfold sameL
  rw [beq_iff_eq]
  apply List.ext_getElem hl
  intro i h1 h2
  have := h i h1
  simpa [List.getD_eq_getElem?_getD, h1, h2] using this
theorem sameL_len {x y : List Int} (hl : ¬ x.length = y.length) : sameL x y = false := by
  unfold sameL
  rw [beq_eq_false_iff_ne]
  intro e; exact hl (by rw [e])
theorem sameL_no {x y : List Int} {k : Nat} (e : ¬ x.getD k 0 = y.getD k 0) : sameL x y = false := by
  unfold sameL
  rw [beq_eq_false_iff_ne]
  intro q; exact e (by rw [q])

def UpRel (x y : List Int) (w : World) (i : Value) (wr : World) : Prop := ∃ k : Nat, k ≤ x.length ∧ i = .int .i64 k ∧ upTo x y k ∧ w.grownBy wr none

set_option maxHeartbeats 1000000 in
theorem sameInts_any (a b : Option Addr) (ca cb : Nat) (x y : List Int) (w : World) (hx : IntsAt w a x) (hy : IntsAt w b y) :
    Calls Try.prog 23 #[.slice a x.length ca, .slice b y.length cb] w fun e w' => e = .returned (.bool (sameL x y)) ∧ w.grownBy w' none := by
  have hm := hx.1
  have hm2 := hy.1
  unfold maxLen at hm hm2
  by_cases hl : x.length = y.length
  · have Hl := Lib.hid hl
    have Hx := Lib.hid hx
    have Hy := Lib.hid hy
    have g0 : ((x.length : Int) != (y.length : Int)) = false := by simp; omega
    clear hl hx hy
    go_enter Try.func23, Try.ntmps23
    go_wp2
    clear g0
    go_loopw [5] (fun i wr => UpRel x y w i wr) (fun i _ => x.length - (intOf i).toNat)
    case atStart => exact ⟨0, by omega, rfl, upTo_0 _ _, grownBy_refl _ _⟩
    case round =>
      obtain ⟨k, hk, rfl, hup, hgr⟩ := hrel
      have Hup := Lib.hid hup
      have Hgr := Lib.hid hgr
      clear hup hgr
      by_cases hlt : k < x.length
      · have hx2 := Hx.out.grown Hgr.out
        have hy2 := Hy.out.grown Hgr.out
        rcases hx2.2 with h0 | ⟨bx, ox, rfl, hbx, hcx⟩
        · rw [h0] at hlt; simp at hlt
        rcases hy2.2 with h0 | ⟨bx2, oy, rfl, hby, hcy⟩
        · have := Hl.out; rw [h0] at this; simp only [List.length_nil] at this; omega
        have hc1 := hcx k hlt
        have hc2 := hcy k (by have := Hl.out; omega)
        have hly : k < y.length := by have := Hl.out; omega
        clear hx2 hy2 hcx hcy hbx hby
        by_cases he : x.getD k 0 = y.getD k 0
        · have hn := Lib.hid (upTo_next Hup.out he)
          have He := Lib.hid he
          have g1 : (x.getD k 0 != y.getD k 0) = false := by simp only [bne_eq_false_iff_eq]; exact he
          generalize x.getD k 0 = p at *
          generalize y.getD k 0 = q at *
          clear he
          go_wp2
          go_quiet (fail)
          go_wp2
          go_roundw
          case rel => exact ⟨k + 1, by omega, by go_num, hn.out, grownBy_drewN Hgr.out _⟩
          case measure => simp [intOf]; omega
        · have hz := Lib.hid (sameL_no he)
          have g1 : (x.getD k 0 != y.getD k 0) = true := by simp only [bne_iff_ne]; exact he
          generalize x.getD k 0 = p at *
          generalize y.getD k 0 = q at *
          clear he
          go_wp2
          go_quiet (fail)
          go_wp2
          go_ret
          exact ⟨by rw [hz.out]; rfl, grownBy_drewN Hgr.out _⟩
      · have hk2 : k = x.length := by omega
        have hz := Lib.hid (sameL_all Hl.out (hk2 ▸ Hup.out))
        clear hk2
        go_wp2
        go_ret
        exact ⟨by rw [hz.out]; rfl, Hgr.out⟩
  · rw [sameL_len hl]
    have g0 : ((x.length : Int) != (y.length : Int)) = true := by simp; omega
    clear hl
    go_enter Try.func23, Try.ntmps23
    go_wp2
    go_ret
    exact ⟨rfl, grownBy_refl _ _⟩

set_option maxHeartbeats 1000000 in
theorem eqIntS_any (a b : Option Addr) (ca cb : Nat) (x y : List Int) (w : World) (hx : IntsAt w a x) (hy : IntsAt w b y) :
    Calls Try.prog 42 #[.slice a x.length ca, .slice b y.length cb] w fun e w' => e = .returned (.bool (sameL x y)) ∧ w.grownBy w' none := by
  have hm := hx.1
  have hm2 := hy.1
  unfold maxLen at hm hm2
  by_cases hl : x.length = y.length
  · have Hl := Lib.hid hl
    have Hx := Lib.hid hx
    have Hy := Lib.hid hy
    have g0 : ((x.length : Int) != (y.length : Int)) = false := by simp; omega
    clear hl hx hy
    go_enter Try.func42, Try.ntmps42
    go_wp2
    clear g0
    go_loopw [5] (fun i wr => UpRel x y w i wr) (fun i _ => x.length - (intOf i).toNat)
    case atStart => exact ⟨0, by omega, rfl, upTo_0 _ _, grownBy_refl _ _⟩
    case round =>
      obtain ⟨k, hk, rfl, hup, hgr⟩ := hrel
      have Hup := Lib.hid hup
      have Hgr := Lib.hid hgr
      clear hup hgr
      by_cases hlt : k < x.length
      · have hx2 := Hx.out.grown Hgr.out
        have hy2 := Hy.out.grown Hgr.out
        rcases hx2.2 with h0 | ⟨bx, ox, rfl, hbx, hcx⟩
        · rw [h0] at hlt; simp at hlt
        rcases hy2.2 with h0 | ⟨bx2, oy, rfl, hby, hcy⟩
        · have := Hl.out; rw [h0] at this; simp only [List.length_nil] at this; omega
        have hc1 := hcx k hlt
        have hc2 := hcy k (by have := Hl.out; omega)
        have hly : k < y.length := by have := Hl.out; omega
        clear hx2 hy2 hcx hcy hbx hby
        by_cases he : x.getD k 0 = y.getD k 0
        · have hn := Lib.hid (upTo_next Hup.out he)
          have He := Lib.hid he
          have g1 : (x.getD k 0 != y.getD k 0) = false := by simp only [bne_eq_false_iff_eq]; exact he
          generalize x.getD k 0 = p at *
          generalize y.getD k 0 = q at *
          clear he
          go_wp2
          go_quiet (fail)
          go_wp2
          go_roundw
          case rel => exact ⟨k + 1, by omega, by go_num, hn.out, grownBy_drewN Hgr.out _⟩
          case measure => simp [intOf]; omega
        · have hz := Lib.hid (sameL_no he)
          have g1 : (x.getD k 0 != y.getD k 0) = true := by simp only [bne_iff_ne]; exact he
          generalize x.getD k 0 = p at *
          generalize y.getD k 0 = q at *
          clear he
          go_wp2
          go_quiet (fail)
          go_wp2
          go_ret
          exact ⟨by rw [hz.out]; rfl, grownBy_drewN Hgr.out _⟩
      · have hk2 : k = x.length := by omega
        have hz := Lib.hid (sameL_all Hl.out (hk2 ▸ Hup.out))
        clear hk2
        go_wp2
        go_ret
        exact ⟨by rw [hz.out]; rfl, Hgr.out⟩
  · rw [sameL_len hl]
    have g0 : ((x.length : Int) != (y.length : Int)) = true := by simp; omega
    clear hl
    go_enter Try.func42, Try.ntmps42
    go_wp2
    go_ret
    exact ⟨rfl, grownBy_refl _ _⟩

/-! Rows in ascending order. -/
def ascTo (x : List Int) (k : Nat) : Prop := ∀ j, j + 1 < k → x.getD j 0 < x.getD (j + 1) 0
def ascL : List Int → Bool
  | [] => true
  | [_] => true
  | x :: y :: l => decide (x < y) && ascL (y :: l)
theorem ascL_all : ∀ {x : List Int}, ascTo x x.length → ascL x = true
  | [], _ => rfl
  | [_], _ => rfl
  | a :: b :: l, h => by
    have h0 := h 0 (by simp)
    have ih := ascL_all (x := b :: l) (fun j hj => by have := h (j + 1) (by simp at hj ⊢; omega); simpa using this)
    unfold ascL
    rw [ih]
    simpa using h0
theorem ascL_of : ∀ {x : List Int}, ascL x = true → ∀ j, j + 1 < x.length → x.getD j 0 < x.getD (j + 1) 0
  | [], _, j, hj => by simp at hj
  | [_], _, j, hj => by simp at hj
  | a :: b :: l, h, j, hj => by
    unfold ascL at h
    rw [Bool.and_eq_true] at h
    cases j with
    | zero => simpa using h.1
    | succ j => have := ascL_of (x := b :: l) h.2 j (by simp at hj ⊢; omega); simpa using this
theorem ascL_no {x : List Int} {k : Nat} (hk : k + 1 < x.length) (h : ¬ x.getD k 0 < x.getD (k + 1) 0) : ascL x = false := by
  cases e : ascL x
  · rfl
  · exact absurd (ascL_of e k hk) h
theorem ascTo_1 (x : List Int) : ascTo x 1 := fun _ h => absurd h (by omega)
theorem ascTo_next {x : List Int} {k : Nat} (h : ascTo x k) (hk : 1 ≤ k) (e : x.getD (k - 1) 0 < x.getD k 0) : ascTo x (k + 1) := fun j hj => by
  by_cases q : j + 1 = k
  · obtain rfl : j = k - 1 := by omega
    rw [show k - 1 + 1 = k from by omega]; exact e
  · exact h j (by omega)

def AscRel (x : List Int) (w : World) (i : Value) (wr : World) : Prop := ∃ k : Nat, 1 ≤ k ∧ (k ≤ x.length ∨ k = 1) ∧ i = .int .i64 k ∧ ascTo x k ∧ w.grownBy wr none

/-! Marks in a row that the law owns. -/
def marks (k : Int) (n : Nat) : List Int := (List.range n).map fun (i : Nat) => k + (i : Int)
theorem marks_len (k : Int) (n : Nat) : (marks k n).length = n := by unfold marks; simp
theorem marks_at (k : Int) (n i : Nat) (h : i < n) : (marks k n).getD i 0 = k + i := by unfold marks; simp [List.getD_eq_getElem?_getD, h]
/-- The row while it is marked: the first j are. -/
def marked (k : Int) (zs : List Int) (j : Nat) : List Int := marks k j ++ zs.drop j
theorem marked_len (k : Int) (zs : List Int) (j : Nat) (h : j ≤ zs.length) : (marked k zs j).length = zs.length := by unfold marked; rw [List.length_append, marks_len, List.length_drop]; omega
theorem marked_0 (k : Int) (zs : List Int) : marked k zs 0 = zs := by simp [marked, marks]
theorem marked_all (k : Int) (zs : List Int) : marked k zs zs.length = marks k zs.length := by simp [marked]
theorem marked_next (k : Int) (zs : List Int) (j : Nat) (h : j < zs.length) : (marked k zs j).set j (k + j) = marked k zs (j + 1) := by
  unfold marked
  rw [List.set_append_right _ _ (by rw [marks_len]; omega), marks_len, Nat.sub_self]
  have hd : zs.drop j = zs[j] :: zs.drop (j + 1) := by rw [List.drop_eq_getElem_cons h]
  rw [hd]
  simp only [List.set_cons_zero]
  have hm : marks k (j + 1) = marks k j ++ [k + (j : Int)] := by unfold marks; rw [List.range_succ, List.map_append]; rfl
  rw [hm, List.append_assoc]
  rfl

def MarkRel (k : Int) (base : Nat) (g cap : Nat) (zs : List Int) (w : World) (kv i : Value) (wr : World) : Prop :=
  ∃ j : Nat, j ≤ zs.length ∧ i = .int .i64 j ∧ kv = .int .i64 (k + j) ∧ wr.ownsRow base 3 1 (.slice (some ⟨g, 0, none⟩) zs.length cap) zs.length ((marked k zs j).map (Value.int .i64)) ∧ w.grownBy wr (some g)

theorem mark_step {w wr : World} {base g cap : Nat} {k : Int} {zs : List Int} {j : Nat} (hj : j < zs.length) (ho : wr.ownsRow base 3 1 (.slice (some ⟨g, 0, none⟩) zs.length cap) zs.length ((marked k zs j).map (Value.int .i64))) (hg : w.grownBy wr (some g)) :
    (wr.setCell ⟨g, j, none⟩ (.int .i64 (k + j))).ownsRow base 3 1 (.slice (some ⟨g, 0, none⟩) zs.length cap) zs.length ((marked k zs (j + 1)).map (Value.int .i64)) ∧ w.grownBy (wr.setCell ⟨g, j, none⟩ (.int .i64 (k + j))) (some g) := by
  have h := World.ownsRow.stored ho j (.int .i64 (k + j))
  rw [← marked_next k zs j hj, List.map_set]
  exact ⟨h.1, grownBy_trans hg h.2⟩

/-- What a call that marked a row leaves: the row holds the marks; of what was there it has written that row alone. -/
def MarkPost (k : Int) (base : Nat) (a : Option Addr) (cap : Nat) (zs : List Int) (w : World) (e : Ending) (w' : World) : Prop :=
  e = .returned (.int .i64 (k + zs.length)) ∧ w'.ownsRow base 3 1 (.slice a zs.length cap) zs.length ((marks k zs.length).map (Value.int .i64)) ∧ w.grownBy w' (Value.slice a zs.length cap).ownBlock

theorem markIntS_any (k : Int) (hk : 0 ≤ k ∧ k ≤ 1000000) (base : Nat) (a : Option Addr) (cap : Nat) (zs : List Int) (hz : zs.length ≤ 1000000) (w : World) (ho : OwnI w base a cap zs) :
    Calls Try.prog 43 #[.slice a zs.length cap, .int .i64 k] w (MarkPost k base a cap zs w) := by
  unfold OwnI at ho
  rcases ho.2 with ⟨h1, h0⟩ | ⟨g, c, cur, h1, hb, hg, h2⟩
  · simp only [Value.slice.injEq] at h1
    obtain ⟨rfl, h3, rfl⟩ := h1
    rw [h0] at ho
    have hp : Hid (MarkPost k base none 0 zs w (.returned (.int .i64 k)) w) := by
      unfold Hid MarkPost
      rw [h0]
      exact ⟨by simp, ⟨by simp [marks], .inl ⟨rfl, rfl⟩⟩, grownBy_refl _ _⟩
    rw [h3]
    clear ho h0 h3
    go_enter Try.func43, Try.ntmps43
    go_wp2
    go_loopw [1, 5] (fun kv i wr => kv = .int .i64 k ∧ i = .int .i64 0 ∧ w = wr) (fun _ _ _ => 0)
    case atStart => exact ⟨rfl, rfl, rfl⟩
    case round =>
      obtain ⟨rfl, rfl, rfl⟩ := hrel
      go_wp2
      go_ret
      exact hp.out
  · simp only [Value.slice.injEq, true_and] at h1
    obtain ⟨rfl, rfl⟩ := h1
    have Ho := Lib.hid ho
    clear ho hg h2
    go_enter Try.func43, Try.ntmps43
    go_wp2
    go_loopw [1, 5] (fun kv i wr => MarkRel k base g cap zs w kv i wr) (fun _ i _ => zs.length - (intOf i).toNat)
    case atStart => exact ⟨0, by omega, rfl, by simp, by rw [marked_0]; exact Ho.out, grownBy_refl _ _⟩
    case round =>
      obtain ⟨j, hj, rfl, rfl, hown, hgr⟩ := hrel
      by_cases hlt : j < zs.length
      · have hfr := World.ownsRow.frozenAt hown j
        have hce := World.ownsRow.cellAt hown j (by omega)
        rw [List.getElem?_eq_getElem (by rw [List.length_map, marked_len _ _ _ hj]; exact hlt)] at hce
        obtain ⟨u, hce⟩ : ∃ u, wr.cell? ⟨g, j, none⟩ = some u := ⟨_, hce⟩
        have hst := Lib.hid (mark_step hlt hown hgr)
        clear hown hgr
        go_wp2
        go_roundw
        case rel => exact ⟨j + 1, by omega, by go_num, by refine congrArg (Value.int .i64) ?_; omega, hst.out.1, hst.out.2⟩
        case measure => simp [intOf]; omega
      · obtain rfl : j = zs.length := by omega
        rw [marked_all] at hown
        have hp : Hid (MarkPost k base (some ⟨g, 0, none⟩) cap zs w (.returned (.int .i64 (k + zs.length))) wr) := ⟨rfl, hown, hgr⟩
        clear hown hgr
        go_wp2
        go_ret
        exact hp.out

/-- Two rows that were made one after the other lie in different blocks. -/
theorem own_apart {w1 w2 : World} {base : Nat} {a b : Option Addr} {ca cb : Nat} {x y : List Int} (h1 : OwnI w1 base a ca x) (h2 : OwnI w2 w1.heap.size b cb y) :
    ∀ z, a = some z → some z.block ≠ (Value.slice b y.length cb).ownBlock := by
  intro z hz e
  subst hz
  have l1 := World.ownsRow.lt h1 z.block rfl
  have l2 := World.ownsRow.lt h2 z.block e.symm
  omega

def HeldRel (k : Int) (n : Nat) (w : World) (kv i : Value) (wr : World) : Prop := ∃ j : Nat, j ≤ n ∧ i = .int .i64 j ∧ kv = .int .i64 (k + j) ∧ w = wr

theorem heldIntS_any (k : Int) (hk : 0 ≤ k ∧ k ≤ 1000000) (a : Option Addr) (n cap : Nat) (hz : n ≤ 1000000) (w : World) (ho : IntsAt w a (marks k n)) :
    Calls Try.prog 44 #[.slice a n cap, .int .i64 k] w fun e w' => e = .returned (.int .i64 (k + n)) ∧ w = w' := by
  have Ho := Lib.hid ho
  clear ho
  go_enter Try.func44, Try.ntmps44
  go_wp2
  go_loopw [1, 5] (fun kv i wr => HeldRel k n w kv i wr) (fun _ i _ => n - (intOf i).toNat)
  case atStart => exact ⟨0, by omega, rfl, by simp, rfl⟩
  case round =>
    obtain ⟨j, hj, rfl, rfl, rfl⟩ := hrel
    by_cases hlt : j < n
    · rcases Ho.out.2 with h0 | ⟨bx, ox, rfl, hbx, hcx⟩
      · have := marks_len k n
        rw [h0] at this
        simp only [List.length_nil] at this
        omega
      have hc1 := hcx j (by rw [marks_len]; exact hlt)
      rw [marks_at k n j hlt] at hc1
      clear hcx
      go_wp2
      go_roundw
      case rel => exact ⟨j + 1, by omega, by go_num, by refine congrArg (Value.int .i64) ?_; omega, rfl⟩
      case measure => simp [intOf]; omega
    · obtain rfl : j = n := by omega
      go_wp2
      go_ret
      exact ⟨rfl, rfl⟩

end Go.Proofs.Ythfikgaghinfbaa
