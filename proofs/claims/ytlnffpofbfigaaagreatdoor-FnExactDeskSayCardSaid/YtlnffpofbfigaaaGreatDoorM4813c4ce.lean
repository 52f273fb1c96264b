/-
  Joined out of the texts DVh, DVi, DVj, DVk, DVl, DVm, DVn, DYb, DYc, DYd, DYe, DYf, DZa: what each holds is told at its head.
-/
import Derived.Test.YtlnffpofbfigaaaGreatDoorNcb6cef20
import Derived.Test.YtlnffpofbfigaaaGreatDoorMeb151bb8
import Derived.Test.YtlnffpofbfigaaaGreatDoorM85c18669
import Derived.Test.YtlnffpofbfigaaaGreatDoorM05400730
import Derived.Test.YtlnffpofbfigaaaGreatDoorM4ae05862
import Derived.Test.YtlnffpofbfigaaaGreatDoorNcdb9cdd1
import Derived.Test.YtlnffpofbfigaaaGreatDoorNfa7a466a
import Derived.Test.YtlnffpofbfigaaaGreatDoorM7bea880a
import Derived.Test.YtlnffpofbfigaaaGreatDoorM2175222d
import Derived.Test.YtlnffpofbfigaaaGreatDoorM323050c2
import Derived.Test.YtlnffpofbfigaaaGreatDoorMa5d7fcb1
import Derived.Test.YtlnffpofbfigaaaGreatDoorM8bfeaf45
import Derived.Test.YtlnffpofbfigaaaGreatDoorMdba168c0
import Derived.Test.YtlnffpofbfigaaaGreatDoorN891658c6
import Derived.Test.YtlnffpofbfigaaaGreatDoorM10e1a973
import Derived.Laws.OwnMore
import Derived.Laws.MakeOwn
import Derived.Test.YtlnffpofbfigaaaGreatDoorM972f736b
import Derived.Deep.RegionHeld3
import Derived.Deep.CutRange
import Derived.Test.YtlnffpofbfigaaaGreatDoorM7609ca6e
import Derived.Test.YtlnffpofbfigaaaGreatDoorM377be3a7
import Derived.Test.YtlnffpofbfigaaaGreatDoorM9c42aede

/-
  Lines that ask whether the formula follows, and for its value: the landed code's.
-/
namespace Go.Proofs.YtlnffpofbfigaaaGreatDoor
open Go.RowKit

def fromA (n : Int) (l t : List UInt8) : ByteArray := if isF t = true then yesA (folI n [t] l) else whatA

set_option maxRecDepth 8000 in
set_option maxHeartbeats 2000000 in
theorem from_any (N : Nat) (s t : List UInt8) (x : Value) (w : World) :
    Calls Tryz.prog 100 #[.agg #[.int .i64 N, .string (bs s), x], .string (bs t)] w (AnPost (fromA N s t) w) := by
  have g1 := Lib.hid (World.grownBy_alloc w (.cells #[.int .i64 N, .string (bs s), x] 32) none)
  have HB := Lib.hid (CellsAt.new w #[.int .i64 N, .string (bs s), x] 32)
  have cf := form_any (bs t)
  rw [bl_bs] at cf
  unfold fromA
  cases hq : isF t with
  | false =>
    rw [hq] at cf
    simp only [Bool.false_eq_true, if_false]
    clear hq
    generalize bs t = T at *
    go_enter Tryz.func100, Tryz.ntmps100
    go_wp2_with (first | (go_at_call 55; (with_reducible refine (cf _).mono ?_); rintro e w2 ⟨rfl, hg⟩))
    go_ret
    exact ⟨rfl, grownBy_trans g1.out hg⟩
  | true =>
    rw [hq] at cf
    simp only [if_true]
    have cF : ∀ (W : World) (b : Nat), W.cell? ⟨b, 0, none⟩ = some (.string (bs t)) → Calls Tryz.prog 135 #[.int .i64 N, .slice (some ⟨b, 0, none⟩) 1 1, .string (bs s)] W fun e w' => e = .returned (.bool (folI N [t] s)) ∧ W.grownBy w' none := fun W b hc => by
      have := ff_any N (some ⟨b, 0, none⟩) 1 [bs t] (bs s) W ⟨by unfold maxLen; simp, .inr ⟨b, 0, rfl, World.block_lt_of_cell? W _ hc, fun i hi => by
        have : i = 0 := by simpa using hi
        subst this
        exact hc⟩⟩
      rw [List.map_cons, List.map_nil, bl_bs, bl_bs] at this
      exact this
    generalize folI N [t] s = b at *
    have cy := iyes_any b
    generalize yesA b = Y at *
    clear hq
    have hcn : Hid (∀ W : World, (W.alloc (.cells #[.string (bs t)] 9)).cell? ⟨W.heap.size, 0, none⟩ = some (.string (bs t))) := Lib.hid fun W => (CellsAt.new W _ _).cell rfl
    generalize bs t = T at *
    go_enter Tryz.func100, Tryz.ntmps100
    go_wp2_with fail
    refine (cf _).mono ?_
    rintro e w2 ⟨rfl, hg⟩
    obtain ⟨c0, c1, c2⟩ := (HB.out.grown hg).three
    obtain ⟨e0, e1, e2⟩ := ((HB.out.grown hg).grown (World.grownBy_alloc w2 (.cells #[.string T] 9) none)).three
    have G2 := Lib.hid (grownBy_trans (grownBy_trans g1.out hg) (World.grownBy_alloc w2 (.cells #[.string T] 9) none))
    clear hg cf
    go_wp2_with (first | (go_at_call 135; (with_reducible refine (cF _ _ (hcn.out _)).mono ?_); rintro e w3 ⟨rfl, hg3⟩) | (go_at_call 134; (with_reducible refine (cy _).mono ?_); rintro e w4 ⟨rfl, rfl⟩))
    go_ret
    exact ⟨rfl, grownBy_trans G2.out hg3⟩

def atA (n : Int) (l t : List UInt8) : ByteArray :=
  match cutL 32 t with
  | [x, y, z] => ansA n l x y z
  | _ => whatA
theorem atA_no {n : Int} {l t : List UInt8} (h : (cutL 32 t).length ≠ 3) : atA n l t = whatA := by
  unfold atA
  split
  · rename_i e; rw [e] at h; exact absurd rfl h
  · rfl
theorem atA_yes {n : Int} {l t x y z : List UInt8} (h : cutL 32 t = [x, y, z]) : atA n l t = ansA n l x y z := by unfold atA; rw [h]
theorem cut_three {s a b c : List UInt8} (h : cutL 32 s = [a, b, c]) : s = a ++ 32 :: (b ++ 32 :: c) := by
  have := cutL_join 32 s
  rw [h] at this
  rw [← this]
  rfl
def asV (dx dy dz : Int) : Nat → Array Value
  | 0 => #[.int .i64 0, .int .i64 0, .int .i64 0]
  | 1 => #[.int .i64 dx, .int .i64 0, .int .i64 0]
  | 2 => #[.int .i64 dx, .int .i64 dy, .int .i64 0]
  | _ => #[.int .i64 dx, .int .i64 dy, .int .i64 dz]
def AtR (w : World) (bw : Nat) (desk : Array Value) (ws : List (List UInt8)) (dx dy dz : Int) (k : Nat) (wr : World) : Prop :=
  CellsAt wr (w.heap.size + 1) (asV dx dy dz k) 145 ∧ WordsAt wr bw ws ∧ CellsAt wr w.heap.size desk 32 ∧ ErAt wr ∧ w.grownBy wr none ∧ w.heap.size + 1 < bw
theorem AtR.grown {w wr w' : World} {bw : Nat} {desk : Array Value} {ws : List (List UInt8)} {dx dy dz : Int} {k : Nat} (h : AtR w bw desk ws dx dy dz k wr) (g : wr.grownBy w' none) : AtR w bw desk ws dx dy dz k w' :=
  ⟨h.1.grown g, CellsAt.grown h.2.1 g, h.2.2.1.grown g, h.2.2.2.1.grown g, grownBy_trans h.2.2.2.2.1 g, h.2.2.2.2.2⟩
theorem at_frame {w wr : World} (g : w.grownBy wr none) (i : Nat) (v : Value) : w.grownBy (wr.setCell ⟨w.heap.size + 1, i, none⟩ v) none :=
  ⟨g.os, g.tape, g.output, by have := g.size; simpa [World.setCell] using this, fun k hk _ => (Below.heap_setCell wr ⟨w.heap.size + 1, i, none⟩ v k (by simp; omega)).trans (g.block k hk (by simp))⟩
theorem AtR.set {w wr : World} {bw : Nat} {desk : Array Value} {ws : List (List UInt8)} {dx dy dz : Int} {k : Nat} (h : AtR w bw desk ws dx dy dz k wr) (i : Nat) (v : Value) (he : (asV dx dy dz k).setIfInBounds i v = asV dx dy dz (k + 1)) (hS : 3 < w.heap.size ∧ 4 < w.heap.size) : AtR w bw desk ws dx dy dz (k + 1) (wr.setCell ⟨w.heap.size + 1, i, none⟩ v) := by
  obtain ⟨h1, h2, h3, h4, h5, h6⟩ := h
  have gp : wr.grownBy (wr.setCell ⟨w.heap.size + 1, i, none⟩ v) (some (w.heap.size + 1)) := grownBy_set wr _ i v
  refine ⟨by rw [← he]; exact h1.set i v, CellsAt.kept h2 gp (by simp; omega), h3.kept gp (by simp), ErAt.past h4 gp (by omega) (by omega), at_frame h5 i v, h6⟩
def AtRel (w : World) (bw : Nat) (desk : Array Value) (ws : List (List UInt8)) (dx dy dz : Int) (iv : Value) (wr : World) : Prop :=
  ∃ k : Nat, k ≤ 3 ∧ iv = .int .i64 k ∧ (0 < k → 0 ≤ dx) ∧ (1 < k → 0 ≤ dy) ∧ (2 < k → 0 ≤ dz) ∧ AtR w bw desk ws dx dy dz k wr

set_option maxRecDepth 8000 in
set_option maxHeartbeats 4000000 in
theorem iat_any (N : Nat) (s l : List UInt8) (x : Value) (w : World) (hl : l.length ≤ 2097152) (hE : ErAt w) :
    Calls Tryz.prog 99 #[.agg #[.int .i64 N, .string (bs s), x], .string (bs l)] w (AnPost (atA N s l) w) := by
  have cS := split_any l hl
  have gA := Lib.hid (World.grownBy_alloc w (.cells #[.int .i64 N, .string (bs s), x] 32) none)
  have gB := Lib.hid (World.grownBy_alloc (w.alloc (.cells #[.int .i64 N, .string (bs s), x] 32)) (.cells #[.int .i64 0, .int .i64 0, .int .i64 0] 145) none)
  by_cases h3 : (cutL 32 l).length = 3
  · obtain ⟨a, b, c, hc⟩ : ∃ a b c, cutL 32 l = [a, b, c] := by
      match hh : cutL 32 l, h3 with
      | [a, b, c], _ => exact ⟨a, b, c, rfl⟩
    rw [atA_yes hc]
    rw [hc] at cS
    have hlen := congrArg List.length (cut_three hc)
    simp only [List.length_append, List.length_cons] at hlen
    have na := fun W h => num_any a (by unfold L48; omega) W h
    have nb := fun W h => num_any b (by unfold L48; omega) W h
    have nc := fun W h => num_any c (by unfold L48; omega) W h
    unfold NumC at na nb nc
    rw [num_dig] at na nb nc
    have hlt := hE.lt
    have HE := Lib.hid hE
    obtain ⟨Y, hY⟩ : ∃ Y, Y = ansA N s a b c := ⟨_, rfl⟩
    rw [← hY]
    unfold ansA at hY
    have cv := fun W => value_any N (bs s) (digI a) (digI b) (digI c) W
    rw [bl_bs] at cv
    generalize digI a = dx at *
    generalize digI b = dy at *
    generalize digI c = dz at *
    have HY := Lib.hid hY
    clear hY
    have HB := Lib.hid (CellsAt.first w (.cells #[.int .i64 0, .int .i64 0, .int .i64 0] 145) #[.int .i64 N, .string (bs s), x] 32)
    have HV := Lib.hid (CellsAt.second w (.cells #[.int .i64 N, .string (bs s), x] 32) #[.int .i64 0, .int .i64 0, .int .i64 0] 145)
    clear hc h3 hlen hl hE
    generalize bs l = L at *
    go_enter Tryz.func99, Tryz.ntmps99
    go_wp2_with fail
    refine (cS _).mono ?_
    rintro e w2 ⟨rfl, hW, hg⟩
    have hs2 : ((w.alloc (.cells #[.int .i64 N, .string (bs s), x] 32)).alloc (.cells #[.int .i64 0, .int .i64 0, .int .i64 0] 145)).heap.size = w.heap.size + 1 + 1 := by simp
    rw [hs2] at hW
    have H0 := Lib.hid (show AtR w (w.heap.size + 1 + 1) #[.int .i64 N, .string (bs s), x] [a, b, c] dx dy dz 0 w2 from ⟨HV.out.grown hg, hW, HB.out.grown hg, HE.out.grown (grownBy_trans gA.out (grownBy_trans gB.out hg)), grownBy_trans gA.out (grownBy_trans gB.out hg), by omega⟩)
    clear hW hg cS hs2 gA gB HB HV
    go_wp2_with fail
    go_loopw [14] (fun iv wr => AtRel w (w.heap.size + 1 + 1) #[.int .i64 N, .string (bs s), x] [a, b, c] dx dy dz iv wr) (fun iv _ => 3 - (intOf iv).toNat)
    case atStart => exact ⟨0, by omega, rfl, by omega, by omega, by omega, H0.out⟩
    case round =>
      obtain ⟨k, hk, rfl, p1, p2, p3, hR⟩ := hrel
      have HR := Lib.hid hR
      have P1 := Lib.hid p1
      have P2 := Lib.hid p2
      have P3 := Lib.hid p3
      have f := HR.out.1
      clear hR p1 p2 p3
      match k, hk with
      | 0, _ =>
        have c0 := WordsAt.cell (i := 0) (t := a) HR.out.2.1 rfl
        go_wp2_with fail
        refine (na _ HR.out.2.2.2.1).mono ?_
        rintro e w3 ⟨rfl, g3⟩
        have H3 := Lib.hid (HR.out.grown g3)
        have HS := Lib.hid (H3.out.set 0 (.int .i64 dx) rfl hlt)
        have f3 := H3.out.1
        have fz := f3.frozen 0
        have e0 := CellsAt.cell (i := 0) (v := .int .i64 0) f3 rfl
        have e1 := CellsAt.cell (i := 0) (v := .int .i64 dx) HS.out.1 rfl
        have HF := Lib.hid f3
        clear g3 f3 c0 f
        by_cases hneg : dx < 0
        · go_wp2_with fail
          go_ret
          exact ⟨by rw [HY.out, if_pos (.inl hneg)]; rfl, HS.out.2.2.2.2.1⟩
        · go_wp2_with fail
          go_roundw
          case rel => exact ⟨1, by omega, rfl, by have := P1.out; have := P2.out; omega, by have := P2.out; omega, by omega, HS.out⟩
          case measure => simp [intOf]
      | 1, _ =>
        have c0 := WordsAt.cell (i := 1) (t := b) HR.out.2.1 rfl
        go_wp2_with fail
        refine (nb _ HR.out.2.2.2.1).mono ?_
        rintro e w3 ⟨rfl, g3⟩
        have H3 := Lib.hid (HR.out.grown g3)
        have HS := Lib.hid (H3.out.set 1 (.int .i64 dy) rfl hlt)
        have f3 := H3.out.1
        have fz := f3.frozen 1
        have e0 := CellsAt.cell (i := 1) (v := .int .i64 0) f3 rfl
        have e1 := CellsAt.cell (i := 1) (v := .int .i64 dy) HS.out.1 rfl
        have HF := Lib.hid f3
        clear g3 f3 c0 f
        by_cases hneg : dy < 0
        · go_wp2_with fail
          go_ret
          exact ⟨by rw [HY.out, if_pos (.inr (.inl hneg))]; rfl, HS.out.2.2.2.2.1⟩
        · go_wp2_with fail
          go_roundw
          case rel => exact ⟨2, by omega, rfl, by have := P1.out; have := P2.out; omega, by have := P2.out; omega, by omega, HS.out⟩
          case measure => simp [intOf]
      | 2, _ =>
        have c0 := WordsAt.cell (i := 2) (t := c) HR.out.2.1 rfl
        go_wp2_with fail
        refine (nc _ HR.out.2.2.2.1).mono ?_
        rintro e w3 ⟨rfl, g3⟩
        have H3 := Lib.hid (HR.out.grown g3)
        have HS := Lib.hid (H3.out.set 2 (.int .i64 dz) rfl hlt)
        have f3 := H3.out.1
        have fz := f3.frozen 2
        have e0 := CellsAt.cell (i := 2) (v := .int .i64 0) f3 rfl
        have e1 := CellsAt.cell (i := 2) (v := .int .i64 dz) HS.out.1 rfl
        have HF := Lib.hid f3
        clear g3 f3 c0 f
        by_cases hneg : dz < 0
        · go_wp2_with fail
          go_ret
          exact ⟨by rw [HY.out, if_pos (.inr (.inr hneg))]; rfl, HS.out.2.2.2.2.1⟩
        · go_wp2_with fail
          go_roundw
          case rel => exact ⟨3, by omega, rfl, by have := P1.out; have := P2.out; omega, by have := P2.out; omega, by omega, HS.out⟩
          case measure => simp [intOf]
      | 3, _ =>
        have n1 := P1.out (by omega)
        have n2 := P2.out (by omega)
        have n3 := P3.out (by omega)
        have e0 := CellsAt.cell (i := 0) (v := .int .i64 dx) f rfl
        have e1 := CellsAt.cell (i := 1) (v := .int .i64 dy) f rfl
        have e2 := CellsAt.cell (i := 2) (v := .int .i64 dz) f rfl
        obtain ⟨b0, b1, b2⟩ := HR.out.2.2.1.three
        have HY2 := Lib.hid (HY.out.trans (if_neg (by omega)))
        generalize valI N s dx dy dz = v at *
        have ct := text_any N v
        unfold StrPost at ct
        go_wp2_with fail
        refine (cv _).mono ?_
        rintro e w3 ⟨rfl, g3⟩
        have H3 := Lib.hid (HR.out.grown g3)
        obtain ⟨b0, b1, b2⟩ := H3.out.2.2.1.three
        clear g3 cv
        by_cases hneg : v < 0
        · go_wp2_with fail
          go_ret
          exact ⟨by rw [HY2.out, if_pos hneg]; rfl, H3.out.2.2.2.2.1⟩
        · have HY3 := Lib.hid (HY2.out.trans (if_neg hneg))
          generalize vtext N v = Z at *
          go_wp2_with (first | (go_at_call 133; (with_reducible refine (ct _).mono ?_); rintro e w4 ⟨rfl, g4⟩))
          go_ret
          exact ⟨by rw [HY3.out]; rfl, grownBy_trans H3.out.2.2.2.2.1 g4⟩
  · rw [atA_no h3]
    have hne : (((cutL 32 l).length : Int) == 3) = false := beq_false_of_ne (by omega)
    have hne2 : ¬ ((cutL 32 l).length = 3) := h3
    generalize (cutL 32 l).length = k at *
    clear hE hl
    generalize bs l = L at *
    go_enter Tryz.func99, Tryz.ntmps99
    go_wp2_with (first | (go_at_call 131; (with_reducible refine (cS _).mono ?_); rintro e w2 ⟨rfl, hW, hg⟩))
    go_ret
    exact ⟨rfl, grownBy_trans gA.out (grownBy_trans gB.out hg)⟩

end Go.Proofs.YtlnffpofbfigaaaGreatDoor

/-
  The answer to a line that is no deed: the landed code's.
-/
namespace Go.Proofs.YtlnffpofbfigaaaGreatDoor
open Go.RowKit Go.Maps Go.Joins

theorem fNoSp {t : List UInt8} (h : isF t = true) : ∀ c ∈ t, c ≠ (32 : UInt8) := fun c hc => (isF_noSp h c hc).1
/-- As the landed code takes a line apart. -/
def ansW (n : Int) (l T B : List UInt8) : ByteArray := if T = [97, 116] then atA n l B else if T = [102, 114, 111, 109] then fromA n l B else whatA
theorem ansW_eq (n : Int) (l line : List UInt8) : ansO n l line = ansW n l (Lib.cut line [32]).1 (Lib.cut line [32]).2.1 := by
  rcases cut_ways 32 line with hm | ⟨t, r, rfl, ht⟩
  · rw [ansO_one hm, cut_miss hm]
    unfold ansW
    split
    · rw [atA_no]; simp [cutL_one]
    · split
      · have e0 : isF [] = false := by decide
        show whatA = (if isF [] = true then yesA (folI n [[]] l) else whatA)
        rw [if_neg (by rw [e0]; simp)]
      · rfl
  · rw [cut_hit r ht]
    unfold ansO ansW
    rw [cutL_more r ht]
    show (match t :: cutL 32 r with
      | [f, x] => if f = [102, 114, 111, 109] ∧ isF x = true then yesA (folI n [x] l) else whatA
      | [a, x, y, z] => if a = [97, 116] then ansA n l x y z else whatA
      | _ => whatA) = if t = [97, 116] then atA n l r else if t = [102, 114, 111, 109] then fromA n l r else whatA
    by_cases hat : t = [97, 116]
    · rw [if_pos hat]
      have hf : ¬ (t = [102, 114, 111, 109]) := by rw [hat]; decide
      split
      · rename_i f x e
        injection e with e1 e2
        subst e1
        rw [if_neg (fun k => hf k.1), atA_no (by rw [e2]; simp)]
      · rename_i a x y z e
        injection e with e1 e2
        subst e1
        rw [if_pos hat, atA_yes e2]
      · rename_i h1 h2
        rw [atA_no]
        intro e
        match hh : cutL 32 r, e with
        | [x, y, z], _ => exact h2 t x y z (by rw [hh])
    · rw [if_neg hat]
      by_cases hf : t = [102, 114, 111, 109]
      · rw [if_pos hf]
        unfold fromA
        split
        · rename_i f x e
          injection e with e1 e2
          subst e1
          have hr : r = x := by have := cutL_join 32 r; rw [e2] at this; exact this.symm
          subst hr
          by_cases hi : isF r = true
          · rw [if_pos ⟨hf, hi⟩, if_pos hi]
          · rw [if_neg (fun k => hi k.2), if_neg hi]
        · rename_i a x y z e
          injection e with e1 e2
          subst e1
          rw [if_neg hat, if_neg]
          intro hi
          rw [cutL_one (fNoSp hi)] at e2
          exact absurd (congrArg List.length e2) (by simp)
        · rename_i h1 h2
          rw [if_neg]
          intro hi
          exact h1 t r (by rw [cutL_one (fNoSp hi)])
      · rw [if_neg hf]
        split
        · rename_i f x e
          injection e with e1 e2
          subst e1
          rw [if_neg (fun k => hf k.1)]
        · rename_i a x y z e
          injection e with e1 e2
          subst e1
          rw [if_neg hat]
        · rfl

theorem asked_any (q : Nat) (hq : q < 9) (N : Nat) (s : List UInt8) (x : Value) (w : World) (h : NowOk N s) :
    Calls Tryz.prog (askF q) #[.agg #[.int .i64 N, .string (bs s), x]] w (AnPost (ansQ N s q) w) := by
  match q, hq with
  | 0, _ => exact q0_any N s x w h
  | 1, _ => exact q1_any N s x w
  | 2, _ => exact q2_any N s x w
  | 3, _ => exact q3_any N s x w
  | 4, _ => exact q4_any N s x w h
  | 5, _ => exact q5_any N s x w
  | 6, _ => exact q6_any N s x w h
  | 7, _ => exact q7_any N s x w h
  | 8, _ => exact q8_any N s x w h
set_option maxRecDepth 100000 in
theorem asked_enter (q : Nat) (hq : q < 9) : ∀ args w, (callFunc (askF q) args).run Tryz.prog w = .ok (.enter (askF q) args) w := by
  match q, hq with
  | 0, _ => exact fun _ _ => by kernel_rfl
  | 1, _ => exact fun _ _ => by kernel_rfl
  | 2, _ => exact fun _ _ => by kernel_rfl
  | 3, _ => exact fun _ _ => by kernel_rfl
  | 4, _ => exact fun _ _ => by kernel_rfl
  | 5, _ => exact fun _ _ => by kernel_rfl
  | 6, _ => exact fun _ _ => by kernel_rfl
  | 7, _ => exact fun _ _ => by kernel_rfl
  | 8, _ => exact fun _ _ => by kernel_rfl

set_option maxRecDepth 8000 in
set_option maxHeartbeats 2000000 in
theorem ians_q (q : Nat) (N : Nat) (s l : List UInt8) (x : Value) (w : World) (h : NowOk N s) (hq : askW[q]? = some l) :
    Calls Tryz.prog 51 #[.agg #[.int .i64 N, .string (bs s), x], .string (bs l)] w (AnPost (ansD N s l) w) := by
  have hq9 : q < 9 := (List.getElem?_eq_some_iff.1 hq).1
  have gA := Lib.hid (World.grownBy_alloc w (.cells #[.int .i64 N, .string (bs s), x] 32) none)
  have HB := Lib.hid (CellsAt.new w #[.int .i64 N, .string (bs s), x] 32)
  have hm := ques_any (w.alloc (.cells #[.int .i64 N, .string (bs s), x] 32))
  unfold QuesPost at hm
  have hlen : l.length ≤ maxLen := by
    have hmem : l ∈ askW := List.mem_of_getElem? hq
    have : ∀ m ∈ askW, m.length ≤ maxLen := by decide
    exact this l hmem
  have hlook : ∀ (W : World) (b n : Nat), W.ownsMap Tryz.prog 9 anyElem b n quesD → (Instr.lookup 125 (.map (some b)) (.string (bs l)) true).run Tryz.prog W = .ok (.tuple #[fnV (askF q), .bool true]) W := fun W b n ho => look_own ho keyedS Tryz.underlying125 (zeroAsk W) (wQ_of l hlen) (ques_in hq).1 (ques_in hq).2
  have cq := fun W => asked_any q hq9 N s x W h
  have he := asked_enter q hq9
  rw [ansD_q hq]
  generalize ansQ N s q = Y at *
  unfold fnV at hlook
  generalize askF q = F at *
  clear hq hlen h
  generalize bs l = L at *
  go_enter Tryz.func51, Tryz.ntmps51
  go_wp2_with fail
  refine hm.mono ?_
  rintro e w1 ⟨rfl, ho, g1⟩
  have hl1 := hlook w1 _ _ ho
  rw [show (w.alloc (.cells #[.int .i64 N, .string (bs s), x] 32)).heap.size = w.heap.size + 1 by simp] at hl1
  obtain ⟨c0, c1, c2⟩ := (HB.out.grown g1).three
  have G1 := Lib.hid (grownBy_trans gA.out g1)
  clear ho g1 hm hlook
  go_wp2_with fail
  refine (cq w1).mono ?_
  rintro e w2 ⟨rfl, g2⟩
  go_wp2_with fail
  go_ret
  exact ⟨rfl, grownBy_trans G1.out g2⟩

set_option maxRecDepth 8000 in
set_option maxHeartbeats 4000000 in
theorem ians_o (N : Nat) (s l : List UInt8) (x : Value) (w : World) (hq : l ∉ askW) (hl : l.length ≤ 2097152) (hE : ErAt w) :
    Calls Tryz.prog 51 #[.agg #[.int .i64 N, .string (bs s), x], .string (bs l)] w (AnPost (ansD N s l) w) := by
  have gA := Lib.hid (World.grownBy_alloc w (.cells #[.int .i64 N, .string (bs s), x] 32) none)
  have HB := Lib.hid (CellsAt.new w #[.int .i64 N, .string (bs s), x] 32)
  have hm := ques_any (w.alloc (.cells #[.int .i64 N, .string (bs s), x] 32))
  unfold QuesPost at hm
  have hlook : ∀ (W : World) (b n : Nat), W.ownsMap Tryz.prog 9 anyElem b n quesD → (Instr.lookup 125 (.map (some b)) (.string (bs l)) true).run Tryz.prog W = .ok (.tuple #[.nilFunc, .bool false]) W := fun W b n ho => by
    obtain ⟨u, ps, hrun, hu⟩ := ho.look_ok keyedS Tryz.underlying125 (zeroAsk W) (zd := .held .nilFunc) (zp := []) rfl (wQ_of l (by unfold maxLen; omega))
    rw [(ques_out hq).1] at hu
    rw [(ques_out hq).2] at hrun
    simp [anyElem] at hu
    rw [hrun, hu.1]
  obtain ⟨T, B, f, hcut⟩ : ∃ T B f, Lib.cut l [32] = (T, B, f) := ⟨_, _, _, rfl⟩
  have cc := fun W => cut_v l 32 T B f hcut W (by unfold L48; omega)
  have hBl : B.length ≤ 2097152 := by have := (cut_len l 32).2; rw [hcut] at this; exact Nat.le_trans this hl
  have e := ansW_eq N s l
  rw [hcut] at e
  rw [ansD_o hq, e]
  have ca := fun W hE => iat_any N s B x W hBl hE
  have cf := fun W => from_any N s B x W
  have HE := Lib.hid hE
  clear hq hl hE e hcut hBl
  show Calls _ _ _ _ (AnPost (ansW N s T B) w)
  generalize bs l = L at *
  by_cases hat : T = [97, 116]
  · have e1 : ansW N s T B = atA N s B := by unfold ansW; rw [if_pos hat]
    rw [e1]
    subst hat
    rw [show bs [97, 116] = (⟨#[97, 116]⟩ : ByteArray) from rfl] at cc
    clear e1 cf
    generalize atA N s B = Y at *
    generalize bs B = BB at *
    go_enter Tryz.func51, Tryz.ntmps51
    go_wp2_with fail
    refine hm.mono ?_
    rintro e w1 ⟨rfl, ho, g1⟩
    have hl1 := hlook w1 _ _ ho
    rw [show (w.alloc (.cells #[.int .i64 N, .string (bs s), x] 32)).heap.size = w.heap.size + 1 by simp] at hl1
    have G1 := Lib.hid (grownBy_trans gA.out g1)
    have HB1 := Lib.hid (HB.out.grown g1)
    clear ho g1 hm hlook
    go_wp2_with fail
    refine (cc _).mono ?_
    rintro e w2 ⟨rfl, g2⟩
    obtain ⟨c0, c1, c2⟩ := (HB1.out.grown g2).three
    have G2 := Lib.hid (grownBy_trans G1.out g2)
    clear g2 cc
    go_wp2_with fail
    refine (ca _ (HE.out.grown G2.out)).mono ?_
    rintro e w3 ⟨rfl, g3⟩
    go_wp2_with fail
    go_ret
    exact ⟨rfl, grownBy_trans G2.out g3⟩
  by_cases hf : T = [102, 114, 111, 109]
  · have e1 : ansW N s T B = fromA N s B := by unfold ansW; rw [if_neg hat, if_pos hf]
    rw [e1]
    subst hf
    rw [show bs [102, 114, 111, 109] = (⟨#[102, 114, 111, 109]⟩ : ByteArray) from rfl] at cc
    clear e1 ca hat
    generalize fromA N s B = Y at *
    generalize bs B = BB at *
    go_enter Tryz.func51, Tryz.ntmps51
    go_wp2_with fail
    refine hm.mono ?_
    rintro e w1 ⟨rfl, ho, g1⟩
    have hl1 := hlook w1 _ _ ho
    rw [show (w.alloc (.cells #[.int .i64 N, .string (bs s), x] 32)).heap.size = w.heap.size + 1 by simp] at hl1
    have G1 := Lib.hid (grownBy_trans gA.out g1)
    have HB1 := Lib.hid (HB.out.grown g1)
    clear ho g1 hm hlook
    go_wp2_with fail
    refine (cc _).mono ?_
    rintro e w2 ⟨rfl, g2⟩
    obtain ⟨c0, c1, c2⟩ := (HB1.out.grown g2).three
    have G2 := Lib.hid (grownBy_trans G1.out g2)
    clear g2 cc
    go_wp2_with fail
    refine (cf _).mono ?_
    rintro e w3 ⟨rfl, g3⟩
    go_wp2_with fail
    go_ret
    exact ⟨rfl, grownBy_trans G2.out g3⟩
  · have e1 : ansW N s T B = whatA := by unfold ansW; rw [if_neg hat, if_neg hf]
    rw [e1]
    have n1 := bs_ne (l := T) (m := [97, 116]) (fun e => hat e.symm)
    have n2 := bs_ne (l := T) (m := [102, 114, 111, 109]) (fun e => hf e.symm)
    have n3 : ((bs T).toList == [97, 116]) = false := by rw [toL_bs]; exact beq_false_of_ne hat
    have n4 : ((bs T).toList == [102, 114, 111, 109]) = false := by rw [toL_bs]; exact beq_false_of_ne hf
    clear e1 ca cf hat hf
    generalize bs T = TT at *
    generalize bs B = BB at *
    go_enter Tryz.func51, Tryz.ntmps51
    go_wp2_with fail
    refine hm.mono ?_
    rintro e w1 ⟨rfl, ho, g1⟩
    have hl1 := hlook w1 _ _ ho
    rw [show (w.alloc (.cells #[.int .i64 N, .string (bs s), x] 32)).heap.size = w.heap.size + 1 by simp] at hl1
    have G1 := Lib.hid (grownBy_trans gA.out g1)
    clear ho g1 hm hlook
    go_wp2_with fail
    refine (cc _).mono ?_
    rintro e w2 ⟨rfl, g2⟩
    go_wp2_with fail
    go_ret
    exact ⟨rfl, grownBy_trans G1.out g2⟩

/-- The answer to any line that is no deed. -/
theorem ianswer_any (N : Nat) (s l : List UInt8) (x : Value) (w : World) (h : NowOk N s) (hl : l.length ≤ 2097152) (hE : ErAt w) :
    Calls Tryz.prog 51 #[.agg #[.int .i64 N, .string (bs s), x], .string (bs l)] w (AnPost (ansD N s l) w) := by
  by_cases hq : l ∈ askW
  · obtain ⟨q, hq'⟩ := List.getElem?_of_mem hq
    exact ians_q q N s l x w h hq'
  · exact ians_o N s l x w hq hl hE

end Go.Proofs.YtlnffpofbfigaaaGreatDoor

/-
  A line to a desk, whatever it is: the landed code's DeskLine.
-/
namespace Go.Proofs.YtlnffpofbfigaaaGreatDoor
open Go.RowKit

def lineR (d : Dk) (l : List UInt8) : Dk × ByteArray :=
  if dkB d = true then
    match rdD l with
    | some D => ((doR d D).1, okT (doR d D).2)
    | none => (d, ansD d.1.1 d.1.2 l)
  else (nilDk, ⟨#[]⟩)
def LinePost (r : Dk × ByteArray) (w : World) (e : Ending) (w' : World) : Prop := ∃ a cap, e = .returned (.tuple #[dkV r.1 a cap, .string r.2]) ∧ OwnL w' w.heap.size a r.1.2 ∧ (a = none → cap = 0) ∧ w.grownBy w' none
theorem now_ok {m : Int} {s : List UInt8} {xs : List Ld} (h : dkB ((m, s), xs) = true) : ∃ N : Nat, m = N ∧ NowOk N s := by
  obtain ⟨h1, h2⟩ := ldB_of (dkB_of h).2.1
  have h1' := inB_of h1
  change 1 ≤ m ∧ m ≤ 6 at h1'
  obtain ⟨N, rfl⟩ := Int.eq_ofNat_of_zero_le (show 0 ≤ m by omega)
  refine ⟨N, rfl, by omega, ?_⟩
  cases hf : fOf s with
  | some t => exact ⟨t, rfl⟩
  | none => rw [isF_f hf] at h2; cases h2

set_option maxRecDepth 8000 in
set_option maxHeartbeats 2000000 in
theorem idl_none (m : Int) (s : List UInt8) (xs : List Ld) (l : List UInt8) (a : Option Addr) (cap : Nat) (w : World) (hq : rdD l = none) (hl : l.length ≤ 2097152) (h : LdsAt w a xs) (h0 : a = none → cap = 0) (hd : dkB ((m, s), xs) = true) (hT : WdAt w ∧ ErAt w) :
    Calls Tryz.prog 14 #[.agg #[.int .i64 m, .string (bs s), .slice a xs.length cap], .string (bs l)] w (LinePost (((m, s), xs), ansD m s l) w) := by
  obtain ⟨N, rfl, hN⟩ := now_ok hd
  have g2 : w.grownBy ((w.alloc (.cells #[.int .i64 N, .string (bs s), .slice a xs.length cap] 32)).alloc (.cells #[.int .i64 0, .string ⟨#[]⟩, .slice none 0 0] 32)) none := grownBy_trans (World.grownBy_alloc w _ none) (World.grownBy_alloc _ _ none)
  have hZ := Lib.hid (CellsAt.second w (.cells #[.int .i64 N, .string (bs s), .slice a xs.length cap] 32) #[.int .i64 0, .string ⟨#[]⟩, .slice none 0 0] 32)
  have hD := Lib.hid (CellsAt.first w (.cells #[.int .i64 0, .string ⟨#[]⟩, .slice none 0 0] 32) #[.int .i64 N, .string (bs s), .slice a xs.length cap] 32)
  have ck := idesk_any ((N, s), xs) a cap _ (h.grown g2)
  rw [hd] at ck
  unfold dkV at ck
  have cr := fun w hT hE => ird_v l _ (rdV_none hq) w hT hE (by unfold L48; omega)
  unfold ddV nilDd at cr
  rw [show bs ([] : List UInt8) = ⟨#[]⟩ from rfl] at cr
  have hx8 : xs.length ≤ 9 := by have := (dkB_of hd).2.2; change xs.length ≤ 8 at this; omega
  have cc : ∀ W, LdsAt W a xs → Calls Tryz.prog 50 #[.agg #[.int .i64 N, .string (bs s), .slice a xs.length cap]] W fun e w' => ∃ a' cap', e = .returned (.agg #[.int .i64 N, .string (bs s), .slice a' xs.length cap']) ∧ Own2 w' W.heap.size a' cap' xs ∧ W.grownBy w' none := fun W hW => copied_any ((N, s), xs) a cap W hW h0 hx8
  have ca := fun W hE => ianswer_any N s l (.slice a xs.length cap) W hN hl hE
  unfold AnPost at ca
  have HX := Lib.hid (h.grown g2)
  have HT := Lib.hid hT
  have G2 := Lib.hid g2
  obtain ⟨Y, hY⟩ : ∃ Y, Y = ansD N s l := ⟨_, rfl⟩
  rw [← hY] at ca ⊢
  clear hY
  generalize bs l = U at *
  clear h g2 hd hT hq hl hx8
  go_enter Tryz.func14, Tryz.ntmps14
  go_wp2_with fail
  generalize (w.alloc (.cells #[.int .i64 N, .string (bs s), .slice a xs.length cap] 32)).alloc (.cells #[.int .i64 0, .string ⟨#[]⟩, .slice none 0 0] 32) = W at *
  refine ck.mono ?_
  rintro e w1 ⟨rfl, hg1⟩
  have G1 := Lib.hid (grownBy_trans G2.out hg1)
  have g1W := Lib.hid hg1
  clear ck hg1
  go_wp2_with fail
  refine (cr _ (HT.out.1.grown G1.out) (HT.out.2.grown G1.out)).mono ?_
  rintro e w2 ⟨rfl, hg2⟩
  have gA := World.grownBy_alloc w2 (.cells #[.int .i64 0, .int .i64 0, .string ⟨#[]⟩] 40) none
  have gW2 := Lib.hid (grownBy_trans g1W.out (grownBy_trans hg2 gA))
  obtain ⟨d0, d1, d2⟩ := (hD.out.grown gW2.out).three
  clear cr hg2 gA
  go_wp2_with fail
  generalize w2.alloc (.cells #[.int .i64 0, .int .i64 0, .string ⟨#[]⟩] 40) = W3 at *
  have HD3 := Lib.hid (hD.out.grown gW2.out)
  have HZ3 := Lib.hid (hZ.out.grown gW2.out)
  have HX3 := Lib.hid (HX.out.grown gW2.out)
  have G3 := Lib.hid (grownBy_trans G2.out gW2.out)
  have HE3 := Lib.hid (HT.out.2.grown G3.out)
  go_region_with (first | (go_at_call 50; (with_reducible refine (cc _ (HX3.out.grown (grownBy_drew (grownBy_refl _ _)))).mono ?_); rintro e wc ⟨a', c', rfl, ho, gc⟩; have GC := Lib.hid (drew_grown gc); have HOc := Lib.hid ho; obtain ⟨q0, q1, q2⟩ := (HD3.out.grown GC.out).three; clear gc ho) | (go_at_call 51; (with_reducible refine (ca _ (HE3.out.grown GC.out)).mono ?_); rintro e wn ⟨rfl, gn⟩; have GN := Lib.hid (grownBy_trans GC.out gn); have HZn := Lib.hid (HZ3.out.grown GN.out); obtain ⟨⟨y0, y1, y2⟩, v0, v1, v2⟩ := dk_facts HZn.out; have HO := Lib.hid (HOc.out.kept gn); clear gn))
  all_goals go_wp2_with fail
  all_goals
    have F := HZn.out.put3 (.int .i64 N) (.string (bs s)) (.slice a' xs.length c')
    have hb : w.heap.size ≤ W3.drew.heap.size := G3.out.size
    have P : LinePost (((N, s), xs), Y) w (.returned (.tuple #[.agg #[.int .i64 N, .string (bs s), .slice a' xs.length c'], .string Y])) (((wn.setCell ⟨w.heap.size + 1, 0, none⟩ (.int .i64 N)).setCell ⟨w.heap.size + 1, 1, none⟩ (.string (bs s))).setCell ⟨w.heap.size + 1, 2, none⟩ (.slice a' xs.length c')) :=
      ⟨a', c', rfl, (HO.out.l.mono hb).put3 ⟨_, HZn.out⟩ _ _ _, HO.out.bare, put3_grown _ (grownBy_trans G3.out GN.out) (by omega) _ _ _⟩
    exact bodyPost_ret (v := .tuple #[.agg #[.int .i64 N, .string (bs s), .slice a' xs.length c'], .string Y]) (resDkB (b := .string Y) rfl _ rfl rfl F) rfl P

set_option maxRecDepth 8000 in
set_option maxHeartbeats 2000000 in
theorem idl_bad (m : Int) (s : List UInt8) (xs : List Ld) (l : List UInt8) (a : Option Addr) (cap : Nat) (w : World) (h : LdsAt w a xs) (hd : dkB ((m, s), xs) = false) :
    Calls Tryz.prog 14 #[.agg #[.int .i64 m, .string (bs s), .slice a xs.length cap], .string (bs l)] w (LinePost (nilDk, ⟨#[]⟩) w) := by
  have g2 : w.grownBy ((w.alloc (.cells #[.int .i64 m, .string (bs s), .slice a xs.length cap] 32)).alloc (.cells #[.int .i64 0, .string ⟨#[]⟩, .slice none 0 0] 32)) none := grownBy_trans (World.grownBy_alloc w _ none) (World.grownBy_alloc _ _ none)
  have hZ := Lib.hid (CellsAt.second w (.cells #[.int .i64 m, .string (bs s), .slice a xs.length cap] 32) #[.int .i64 0, .string ⟨#[]⟩, .slice none 0 0] 32)
  have ck := idesk_any ((m, s), xs) a cap _ (h.grown g2)
  rw [hd] at ck
  unfold dkV at ck
  have G2 := Lib.hid g2
  generalize bs l = U at *
  clear h g2 hd
  go_enter Tryz.func14, Tryz.ntmps14
  go_wp2_with fail
  generalize (w.alloc (.cells #[.int .i64 m, .string (bs s), .slice a xs.length cap] 32)).alloc (.cells #[.int .i64 0, .string ⟨#[]⟩, .slice none 0 0] 32) = W at *
  refine ck.mono ?_
  rintro e w1 ⟨rfl, hg1⟩
  have HZ1 := Lib.hid (hZ.out.grown hg1)
  have G1 := Lib.hid (grownBy_trans G2.out hg1)
  obtain ⟨⟨y0, y1, y2⟩, v0, v1, v2⟩ := dk_facts HZ1.out
  clear ck hg1
  go_wp2_with fail
  have F := HZ1.out.put3 (.int .i64 0) (.string ⟨#[]⟩) (.slice none 0 0)
  have P : LinePost (nilDk, ⟨#[]⟩) w (.returned (.tuple #[.agg #[.int .i64 0, .string ⟨#[]⟩, .slice none 0 0], .string ⟨#[]⟩])) (((w1.setCell ⟨w.heap.size + 1, 0, none⟩ (.int .i64 0)).setCell ⟨w.heap.size + 1, 1, none⟩ (.string ⟨#[]⟩)).setCell ⟨w.heap.size + 1, 2, none⟩ (.slice none 0 0)) :=
    ⟨none, 0, rfl, OwnL.nil _ _ _, fun _ => rfl, put3_grown _ G1.out (by omega) _ _ _⟩
  exact bodyPost_ret (v := .tuple #[.agg #[.int .i64 0, .string ⟨#[]⟩, .slice none 0 0], .string ⟨#[]⟩]) (resDkB (b := .string ⟨#[]⟩) rfl _ rfl rfl F) rfl P

theorem rd_tl {l : List UInt8} {D : Dd} (h : rdD l = some D) : D.2.2.length ≤ l.length := by
  have := rd_told h
  cases this <;> simp
/-- impl's DeskLine, at any desk and any line. -/
theorem idl_any (d : Dk) (l : List UInt8) (a : Option Addr) (cap : Nat) (w : World) (hl : l.length ≤ 2097152) (h : LdsAt w a d.2) (h0 : a = none → cap = 0) (hT : WdAt w ∧ ErAt w) :
    Calls Tryz.prog 14 #[dkV d a cap, .string (bs l)] w (LinePost (lineR d l) w) := by
  obtain ⟨⟨m, s⟩, xs⟩ := d
  unfold lineR
  cases hd : dkB ((m, s), xs)
  · simp only [Bool.false_eq_true, if_false]
    exact idl_bad m s xs l a cap w h hd
  · simp only [if_true]
    cases hq : rdD l with
    | none => exact idl_none m s xs l a cap w hq hl h h0 hd hT
    | some D => exact idl_deed m s xs D l a cap w hq (Nat.le_trans hl (by decide)) (by have := rd_tl hq; omega) h h0 hd hT

end Go.Proofs.YtlnffpofbfigaaaGreatDoor

/-
  The model's DeskLine at a line of one word that asks.
-/
namespace Go.Proofs.YtlnffpofbfigaaaGreatDoor
open Go.RowKit

theorem ints3 (w : World) (x y z : Int) : IntsAt (w.alloc (.cells #[.int .i64 x, .int .i64 y, .int .i64 z] 3)) (some ⟨w.heap.size, 0, none⟩) [x, y, z] :=
  OwnI.at (base := w.heap.size) (cap := 3) (World.ownsRow_lit (e := 3) (size := 1) w #[.int .i64 x, .int .i64 y, .int .i64 z] 3 (Nat.le_refl _) (by unfold maxLen; omega) rfl) (by unfold maxLen; simp)

set_option maxRecDepth 8000 in
set_option maxHeartbeats 2000000 in
theorem sdl_q0 (N : Nat) (s : List UInt8) (xs : List Ld) (a : Option Addr) (cap : Nat) (w : World) (hN : NowOk N s) (h : LdsAt w a xs) (h0 : a = none → cap = 0) (hd : dkB (((N : Int), s), xs) = true) :
    Calls Tryz.prog 21 #[.agg #[.int .i64 N, .string (bs s), .slice a xs.length cap], .string (bs [115, 116, 101, 112, 115])] w (LinePost (((N, s), xs), ansQ N s 0) w) := by
  have g2 : w.grownBy ((w.alloc (.cells #[.int .i64 N, .string (bs s), .slice a xs.length cap] 32)).alloc (.cells #[.int .i64 0, .string ⟨#[]⟩, .slice none 0 0] 32)) none := grownBy_trans (World.grownBy_alloc w _ none) (World.grownBy_alloc _ _ none)
  have hZ := Lib.hid (CellsAt.second w (.cells #[.int .i64 N, .string (bs s), .slice a xs.length cap] 32) #[.int .i64 0, .string ⟨#[]⟩, .slice none 0 0] 32)
  have hD := Lib.hid (CellsAt.first w (.cells #[.int .i64 0, .string ⟨#[]⟩, .slice none 0 0] 32) #[.int .i64 N, .string (bs s), .slice a xs.length cap] 32)
  have ck := sdesk_is ((N, s), xs) a cap _ (h.grown g2)
  rw [hd] at ck
  unfold dkV at ck
  have cr := fun w => srd_v [115, 116, 101, 112, 115] _ (rdV_none (by decide)) w (by decide)
  unfold ddV nilDd at cr
  rw [show bs ([] : List UInt8) = ⟨#[]⟩ from rfl] at cr
  have hx8 : xs.length ≤ 9 := by have := (dkB_of hd).2.2; change xs.length ≤ 8 at this; omega
  have cc : ∀ W, LdsAt W a xs → Calls Tryz.prog 60 #[.agg #[.int .i64 N, .string (bs s), .slice a xs.length cap]] W fun e w' => ∃ a' cap', e = .returned (.agg #[.int .i64 N, .string (bs s), .slice a' xs.length cap']) ∧ Own2 w' W.heap.size a' cap' xs ∧ W.grownBy w' none := fun W hW => scopy_any ((N, s), xs) a cap W hW h0 hx8
  have HX := Lib.hid (h.grown g2)
  have G2 := Lib.hid g2
  have HN := Lib.hid hN
  obtain ⟨U, hU⟩ : ∃ U, U = bs [115, 116, 101, 112, 115] := ⟨_, rfl⟩
  rw [← hU] at cr ⊢
  have u0 : (U.toList == [115, 116, 101, 112, 115]) = true := by rw [hU, toL_bs]; decide
  have cn := fun W => num99_any N (by have := hN.1; omega) W
  rw [show bs (decL N) = ansQ N s 0 from rfl] at cn
  obtain ⟨Y, hY⟩ : ∃ Y, Y = ansQ N s 0 := ⟨_, rfl⟩
  rw [← hY] at cn ⊢
  clear hY
  clear h g2 hd hx8 hU
  go_enter Tryz.func21, Tryz.ntmps21
  go_wp2_with fail
  generalize (w.alloc (.cells #[.int .i64 N, .string (bs s), .slice a xs.length cap] 32)).alloc (.cells #[.int .i64 0, .string ⟨#[]⟩, .slice none 0 0] 32) = W at *
  refine ck.mono ?_
  rintro e w1 ⟨rfl, hg1⟩
  have G1 := Lib.hid (grownBy_trans G2.out hg1)
  have HX1 := Lib.hid (HX.out.grown hg1)
  have hD1 := Lib.hid (hD.out.grown hg1)
  have hZ1 := Lib.hid (hZ.out.grown hg1)
  obtain ⟨d0, d1, d2⟩ := hD1.out.three
  clear ck hg1
  go_wp2_with fail
  refine (cc _ HX1.out).mono ?_
  rintro e w2 ⟨a', c', rfl, ho, hg2⟩
  have gA := World.grownBy_alloc w2 (.cells #[.int .i64 N, .string (bs s), .slice a' xs.length c'] 32) none
  have g12 := grownBy_trans hg2 gA
  have G12 := Lib.hid (grownBy_trans G1.out g12)
  have hD2 := Lib.hid (hD1.out.grown g12)
  have hZ2 := Lib.hid (hZ1.out.grown g12)
  have hS2 := Lib.hid (CellsAt.new w2 #[.int .i64 N, .string (bs s), .slice a' xs.length c'] 32)
  have HO := Lib.hid ((ho.kept gA).l.mono G1.out.size)
  have HB := Lib.hid ho.bare
  have hb2 : Hid (w.heap.size + 2 ≤ w2.heap.size) := Lib.hid (by
    have := hZ1.out.lt; have := hg2.size; omega)
  clear cc ho hg2 gA g12 d0 d1 d2
  go_wp2_with fail
  generalize w2.alloc (.cells #[.int .i64 N, .string (bs s), .slice a' xs.length c'] 32) = W2 at *
  generalize w2.heap.size = sb at *
  refine (cr _).mono ?_
  rintro e w3 ⟨rfl, hg3⟩
  have gA3 := grownBy_trans hg3 (World.grownBy_alloc w3 (.cells #[.int .i64 0, .int .i64 0, .string ⟨#[]⟩] 40) none)
  have G3 := Lib.hid (grownBy_trans G12.out gA3)
  have hD3 := Lib.hid (hD2.out.grown gA3)
  have hZ3 := Lib.hid (hZ2.out.grown gA3)
  have hS3 := Lib.hid (hS2.out.grown gA3)
  have HO3 := Lib.hid (HO.out.kept gA3)
  obtain ⟨d0, d1, d2⟩ := hD3.out.three
  obtain ⟨s0, s1, s2⟩ := hS3.out.three
  obtain ⟨⟨y0, y1, y2⟩, v0, v1, v2⟩ := dk_facts hZ3.out
  clear cr hg3 gA3
  go_wp2_with fail
  generalize w3.alloc (.cells #[.int .i64 0, .int .i64 0, .string ⟨#[]⟩] 40) = W3 at *
  go_region_with (first | (go_at_call 62; (with_reducible refine (cn _).mono ?_); rintro e wn ⟨rfl, gn⟩; have GN := Lib.hid (drew_grown gn); have HZn := Lib.hid (hZ3.out.grown GN.out); obtain ⟨s0n, s1n, s2n⟩ := (hS3.out.grown GN.out).three; obtain ⟨⟨y0, y1, y2⟩, v0, v1, v2⟩ := dk_facts HZn.out; have HO := Lib.hid (HO3.out.kept GN.out); clear gn))
  all_goals go_wp2_with fail
  all_goals
    have P : LinePost (((N, s), xs), Y) w (.returned (.tuple #[.agg #[.int .i64 N, .string (bs s), .slice a' xs.length c'], .string Y])) (((wn.setCell ⟨w.heap.size + 1, 0, none⟩ (.int .i64 N)).setCell ⟨w.heap.size + 1, 1, none⟩ (.string (bs s))).setCell ⟨w.heap.size + 1, 2, none⟩ (.slice a' xs.length c')) :=
      ⟨a', c', rfl, HO.out.put3 ⟨_, HZn.out⟩ _ _ _, HB.out, put3_grown _ (grownBy_trans G3.out GN.out) (by omega) _ _ _⟩
    exact bodyPost_ret (v := .tuple #[.agg #[.int .i64 N, .string (bs s), .slice a' xs.length c'], .string Y]) (resDkB (b := .string Y) rfl _ rfl rfl (HZn.out.put3 (.int .i64 N) (.string (bs s)) (.slice a' xs.length c'))) rfl P

set_option maxRecDepth 8000 in
set_option maxHeartbeats 2000000 in
theorem sdl_q1 (N : Nat) (s : List UInt8) (xs : List Ld) (a : Option Addr) (cap : Nat) (w : World) (hN : NowOk N s) (h : LdsAt w a xs) (h0 : a = none → cap = 0) (hd : dkB (((N : Int), s), xs) = true) :
    Calls Tryz.prog 21 #[.agg #[.int .i64 N, .string (bs s), .slice a xs.length cap], .string (bs [116, 101, 120, 116])] w (LinePost (((N, s), xs), ansQ N s 1) w) := by
  have g2 : w.grownBy ((w.alloc (.cells #[.int .i64 N, .string (bs s), .slice a xs.length cap] 32)).alloc (.cells #[.int .i64 0, .string ⟨#[]⟩, .slice none 0 0] 32)) none := grownBy_trans (World.grownBy_alloc w _ none) (World.grownBy_alloc _ _ none)
  have hZ := Lib.hid (CellsAt.second w (.cells #[.int .i64 N, .string (bs s), .slice a xs.length cap] 32) #[.int .i64 0, .string ⟨#[]⟩, .slice none 0 0] 32)
  have hD := Lib.hid (CellsAt.first w (.cells #[.int .i64 0, .string ⟨#[]⟩, .slice none 0 0] 32) #[.int .i64 N, .string (bs s), .slice a xs.length cap] 32)
  have ck := sdesk_is ((N, s), xs) a cap _ (h.grown g2)
  rw [hd] at ck
  unfold dkV at ck
  have cr := fun w => srd_v [116, 101, 120, 116] _ (rdV_none (by decide)) w (by decide)
  unfold ddV nilDd at cr
  rw [show bs ([] : List UInt8) = ⟨#[]⟩ from rfl] at cr
  have hx8 : xs.length ≤ 9 := by have := (dkB_of hd).2.2; change xs.length ≤ 8 at this; omega
  have cc : ∀ W, LdsAt W a xs → Calls Tryz.prog 60 #[.agg #[.int .i64 N, .string (bs s), .slice a xs.length cap]] W fun e w' => ∃ a' cap', e = .returned (.agg #[.int .i64 N, .string (bs s), .slice a' xs.length cap']) ∧ Own2 w' W.heap.size a' cap' xs ∧ W.grownBy w' none := fun W hW => scopy_any ((N, s), xs) a cap W hW h0 hx8
  have HX := Lib.hid (h.grown g2)
  have G2 := Lib.hid g2
  have HN := Lib.hid hN
  obtain ⟨U, hU⟩ : ∃ U, U = bs [116, 101, 120, 116] := ⟨_, rfl⟩
  rw [← hU] at cr ⊢
  have u0 : (U.toList == [115, 116, 101, 112, 115]) = false := by rw [hU, toL_bs]; decide
  have u1 : (U.toList == [116, 101, 120, 116]) = true := by rw [hU, toL_bs]; decide
  rw [show ansQ N s 1 = bs s from rfl]
  clear h g2 hd hx8 hU
  go_enter Tryz.func21, Tryz.ntmps21
  go_wp2_with fail
  generalize (w.alloc (.cells #[.int .i64 N, .string (bs s), .slice a xs.length cap] 32)).alloc (.cells #[.int .i64 0, .string ⟨#[]⟩, .slice none 0 0] 32) = W at *
  refine ck.mono ?_
  rintro e w1 ⟨rfl, hg1⟩
  have G1 := Lib.hid (grownBy_trans G2.out hg1)
  have HX1 := Lib.hid (HX.out.grown hg1)
  have hD1 := Lib.hid (hD.out.grown hg1)
  have hZ1 := Lib.hid (hZ.out.grown hg1)
  obtain ⟨d0, d1, d2⟩ := hD1.out.three
  clear ck hg1
  go_wp2_with fail
  refine (cc _ HX1.out).mono ?_
  rintro e w2 ⟨a', c', rfl, ho, hg2⟩
  have gA := World.grownBy_alloc w2 (.cells #[.int .i64 N, .string (bs s), .slice a' xs.length c'] 32) none
  have g12 := grownBy_trans hg2 gA
  have G12 := Lib.hid (grownBy_trans G1.out g12)
  have hD2 := Lib.hid (hD1.out.grown g12)
  have hZ2 := Lib.hid (hZ1.out.grown g12)
  have hS2 := Lib.hid (CellsAt.new w2 #[.int .i64 N, .string (bs s), .slice a' xs.length c'] 32)
  have HO := Lib.hid ((ho.kept gA).l.mono G1.out.size)
  have HB := Lib.hid ho.bare
  have hb2 : Hid (w.heap.size + 2 ≤ w2.heap.size) := Lib.hid (by
    have := hZ1.out.lt; have := hg2.size; omega)
  clear cc ho hg2 gA g12 d0 d1 d2
  go_wp2_with fail
  generalize w2.alloc (.cells #[.int .i64 N, .string (bs s), .slice a' xs.length c'] 32) = W2 at *
  generalize w2.heap.size = sb at *
  refine (cr _).mono ?_
  rintro e w3 ⟨rfl, hg3⟩
  have gA3 := grownBy_trans hg3 (World.grownBy_alloc w3 (.cells #[.int .i64 0, .int .i64 0, .string ⟨#[]⟩] 40) none)
  have G3 := Lib.hid (grownBy_trans G12.out gA3)
  have hD3 := Lib.hid (hD2.out.grown gA3)
  have hZ3 := Lib.hid (hZ2.out.grown gA3)
  have hS3 := Lib.hid (hS2.out.grown gA3)
  have HO3 := Lib.hid (HO.out.kept gA3)
  obtain ⟨d0, d1, d2⟩ := hD3.out.three
  obtain ⟨s0, s1, s2⟩ := hS3.out.three
  obtain ⟨⟨y0, y1, y2⟩, v0, v1, v2⟩ := dk_facts hZ3.out
  clear cr hg3 gA3
  go_wp2_with fail
  generalize w3.alloc (.cells #[.int .i64 0, .int .i64 0, .string ⟨#[]⟩] 40) = W3 at *
  have HZn := hZ3
  have HO := HO3
  have GN : Hid (W3.grownBy W3 none) := Lib.hid (grownBy_refl _ _)
  have P : LinePost (((N, s), xs), (bs s)) w (.returned (.tuple #[.agg #[.int .i64 N, .string (bs s), .slice a' xs.length c'], .string (bs s)])) (((W3.setCell ⟨w.heap.size + 1, 0, none⟩ (.int .i64 N)).setCell ⟨w.heap.size + 1, 1, none⟩ (.string (bs s))).setCell ⟨w.heap.size + 1, 2, none⟩ (.slice a' xs.length c')) :=
    ⟨a', c', rfl, HO.out.put3 ⟨_, HZn.out⟩ _ _ _, HB.out, put3_grown _ (grownBy_trans G3.out GN.out) (by omega) _ _ _⟩
  exact bodyPost_ret (v := .tuple #[.agg #[.int .i64 N, .string (bs s), .slice a' xs.length c'], .string (bs s)]) (resDkB (b := .string (bs s)) rfl _ rfl rfl (HZn.out.put3 (.int .i64 N) (.string (bs s)) (.slice a' xs.length c'))) rfl P

set_option maxRecDepth 8000 in
set_option maxHeartbeats 2000000 in
theorem sdl_q2 (N : Nat) (s : List UInt8) (xs : List Ld) (a : Option Addr) (cap : Nat) (w : World) (hN : NowOk N s) (h : LdsAt w a xs) (h0 : a = none → cap = 0) (hd : dkB (((N : Int), s), xs) = true) :
    Calls Tryz.prog 21 #[.agg #[.int .i64 N, .string (bs s), .slice a xs.length cap], .string (bs [97, 108, 119, 97, 121, 115])] w (LinePost (((N, s), xs), ansQ N s 2) w) := by
  have g2 : w.grownBy ((w.alloc (.cells #[.int .i64 N, .string (bs s), .slice a xs.length cap] 32)).alloc (.cells #[.int .i64 0, .string ⟨#[]⟩, .slice none 0 0] 32)) none := grownBy_trans (World.grownBy_alloc w _ none) (World.grownBy_alloc _ _ none)
  have hZ := Lib.hid (CellsAt.second w (.cells #[.int .i64 N, .string (bs s), .slice a xs.length cap] 32) #[.int .i64 0, .string ⟨#[]⟩, .slice none 0 0] 32)
  have hD := Lib.hid (CellsAt.first w (.cells #[.int .i64 0, .string ⟨#[]⟩, .slice none 0 0] 32) #[.int .i64 N, .string (bs s), .slice a xs.length cap] 32)
  have ck := sdesk_is ((N, s), xs) a cap _ (h.grown g2)
  rw [hd] at ck
  unfold dkV at ck
  have cr := fun w => srd_v [97, 108, 119, 97, 121, 115] _ (rdV_none (by decide)) w (by decide)
  unfold ddV nilDd at cr
  rw [show bs ([] : List UInt8) = ⟨#[]⟩ from rfl] at cr
  have hx8 : xs.length ≤ 9 := by have := (dkB_of hd).2.2; change xs.length ≤ 8 at this; omega
  have cc : ∀ W, LdsAt W a xs → Calls Tryz.prog 60 #[.agg #[.int .i64 N, .string (bs s), .slice a xs.length cap]] W fun e w' => ∃ a' cap', e = .returned (.agg #[.int .i64 N, .string (bs s), .slice a' xs.length cap']) ∧ Own2 w' W.heap.size a' cap' xs ∧ W.grownBy w' none := fun W hW => scopy_any ((N, s), xs) a cap W hW h0 hx8
  have HX := Lib.hid (h.grown g2)
  have G2 := Lib.hid g2
  have HN := Lib.hid hN
  obtain ⟨U, hU⟩ : ∃ U, U = bs [97, 108, 119, 97, 121, 115] := ⟨_, rfl⟩
  rw [← hU] at cr ⊢
  have u0 : (U.toList == [115, 116, 101, 112, 115]) = false := by rw [hU, toL_bs]; decide
  have u1 : (U.toList == [116, 101, 120, 116]) = false := by rw [hU, toL_bs]; decide
  have u2 : (U.toList == [97, 108, 119, 97, 121, 115]) = true := by rw [hU, toL_bs]; decide
  have ca : ∀ W, Calls Tryz.prog 64 #[.int .i64 N, .string (bs s)] W fun e w' => e = .returned (.bool (alwB N s)) ∧ W.grownBy w' none := fun W => salways_any N (bs s) W
  have cn := fun W => syes_any (alwB N s) W
  rw [show yesA (alwB N s) = ansQ N s 2 from rfl] at cn
  generalize alwB N s = B at ca cn
  obtain ⟨Y, hY⟩ : ∃ Y, Y = ansQ N s 2 := ⟨_, rfl⟩
  rw [← hY] at cn ⊢
  clear hY
  clear h g2 hd hx8 hU
  go_enter Tryz.func21, Tryz.ntmps21
  go_wp2_with fail
  generalize (w.alloc (.cells #[.int .i64 N, .string (bs s), .slice a xs.length cap] 32)).alloc (.cells #[.int .i64 0, .string ⟨#[]⟩, .slice none 0 0] 32) = W at *
  refine ck.mono ?_
  rintro e w1 ⟨rfl, hg1⟩
  have G1 := Lib.hid (grownBy_trans G2.out hg1)
  have HX1 := Lib.hid (HX.out.grown hg1)
  have hD1 := Lib.hid (hD.out.grown hg1)
  have hZ1 := Lib.hid (hZ.out.grown hg1)
  obtain ⟨d0, d1, d2⟩ := hD1.out.three
  clear ck hg1
  go_wp2_with fail
  refine (cc _ HX1.out).mono ?_
  rintro e w2 ⟨a', c', rfl, ho, hg2⟩
  have gA := World.grownBy_alloc w2 (.cells #[.int .i64 N, .string (bs s), .slice a' xs.length c'] 32) none
  have g12 := grownBy_trans hg2 gA
  have G12 := Lib.hid (grownBy_trans G1.out g12)
  have hD2 := Lib.hid (hD1.out.grown g12)
  have hZ2 := Lib.hid (hZ1.out.grown g12)
  have hS2 := Lib.hid (CellsAt.new w2 #[.int .i64 N, .string (bs s), .slice a' xs.length c'] 32)
  have HO := Lib.hid ((ho.kept gA).l.mono G1.out.size)
  have HB := Lib.hid ho.bare
  have hb2 : Hid (w.heap.size + 2 ≤ w2.heap.size) := Lib.hid (by
    have := hZ1.out.lt; have := hg2.size; omega)
  clear cc ho hg2 gA g12 d0 d1 d2
  go_wp2_with fail
  generalize w2.alloc (.cells #[.int .i64 N, .string (bs s), .slice a' xs.length c'] 32) = W2 at *
  generalize w2.heap.size = sb at *
  refine (cr _).mono ?_
  rintro e w3 ⟨rfl, hg3⟩
  have gA3 := grownBy_trans hg3 (World.grownBy_alloc w3 (.cells #[.int .i64 0, .int .i64 0, .string ⟨#[]⟩] 40) none)
  have G3 := Lib.hid (grownBy_trans G12.out gA3)
  have hD3 := Lib.hid (hD2.out.grown gA3)
  have hZ3 := Lib.hid (hZ2.out.grown gA3)
  have hS3 := Lib.hid (hS2.out.grown gA3)
  have HO3 := Lib.hid (HO.out.kept gA3)
  obtain ⟨d0, d1, d2⟩ := hD3.out.three
  obtain ⟨s0, s1, s2⟩ := hS3.out.three
  obtain ⟨⟨y0, y1, y2⟩, v0, v1, v2⟩ := dk_facts hZ3.out
  clear cr hg3 gA3
  go_wp2_with fail
  generalize w3.alloc (.cells #[.int .i64 0, .int .i64 0, .string ⟨#[]⟩] 40) = W3 at *
  go_region_with (first | (go_at_call 64; (with_reducible refine (ca _).mono ?_); rintro e wa ⟨rfl, ga⟩; have GA := Lib.hid (drew_grown ga); obtain ⟨s0a, s1a, s2a⟩ := (hS3.out.grown GA.out).three; clear ga) | (go_at_call 63; (with_reducible refine (cn _).mono ?_); rintro e _ ⟨rfl, rfl⟩; have GN := Lib.hid (GA.out); have HZn := Lib.hid (hZ3.out.grown GN.out); obtain ⟨s0n, s1n, s2n⟩ := (hS3.out.grown GN.out).three; obtain ⟨⟨y0, y1, y2⟩, v0, v1, v2⟩ := dk_facts HZn.out; have HO := Lib.hid (HO3.out.kept GN.out)))
  all_goals go_wp2_with fail
  all_goals
    have P : LinePost (((N, s), xs), Y) w (.returned (.tuple #[.agg #[.int .i64 N, .string (bs s), .slice a' xs.length c'], .string Y])) (((wa.setCell ⟨w.heap.size + 1, 0, none⟩ (.int .i64 N)).setCell ⟨w.heap.size + 1, 1, none⟩ (.string (bs s))).setCell ⟨w.heap.size + 1, 2, none⟩ (.slice a' xs.length c')) :=
      ⟨a', c', rfl, HO.out.put3 ⟨_, HZn.out⟩ _ _ _, HB.out, put3_grown _ (grownBy_trans G3.out GN.out) (by omega) _ _ _⟩
    exact bodyPost_ret (v := .tuple #[.agg #[.int .i64 N, .string (bs s), .slice a' xs.length c'], .string Y]) (resDkB (b := .string Y) rfl _ rfl rfl (HZn.out.put3 (.int .i64 N) (.string (bs s)) (.slice a' xs.length c'))) rfl P

set_option maxRecDepth 8000 in
set_option maxHeartbeats 2000000 in
theorem sdl_q3 (N : Nat) (s : List UInt8) (xs : List Ld) (a : Option Addr) (cap : Nat) (w : World) (hN : NowOk N s) (h : LdsAt w a xs) (h0 : a = none → cap = 0) (hd : dkB (((N : Int), s), xs) = true) :
    Calls Tryz.prog 21 #[.agg #[.int .i64 N, .string (bs s), .slice a xs.length cap], .string (bs [108, 101, 97, 115, 116])] w (LinePost (((N, s), xs), ansQ N s 3) w) := by
  have g2 : w.grownBy ((w.alloc (.cells #[.int .i64 N, .string (bs s), .slice a xs.length cap] 32)).alloc (.cells #[.int .i64 0, .string ⟨#[]⟩, .slice none 0 0] 32)) none := grownBy_trans (World.grownBy_alloc w _ none) (World.grownBy_alloc _ _ none)
  have hZ := Lib.hid (CellsAt.second w (.cells #[.int .i64 N, .string (bs s), .slice a xs.length cap] 32) #[.int .i64 0, .string ⟨#[]⟩, .slice none 0 0] 32)
  have hD := Lib.hid (CellsAt.first w (.cells #[.int .i64 0, .string ⟨#[]⟩, .slice none 0 0] 32) #[.int .i64 N, .string (bs s), .slice a xs.length cap] 32)
  have ck := sdesk_is ((N, s), xs) a cap _ (h.grown g2)
  rw [hd] at ck
  unfold dkV at ck
  have cr := fun w => srd_v [108, 101, 97, 115, 116] _ (rdV_none (by decide)) w (by decide)
  unfold ddV nilDd at cr
  rw [show bs ([] : List UInt8) = ⟨#[]⟩ from rfl] at cr
  have hx8 : xs.length ≤ 9 := by have := (dkB_of hd).2.2; change xs.length ≤ 8 at this; omega
  have cc : ∀ W, LdsAt W a xs → Calls Tryz.prog 60 #[.agg #[.int .i64 N, .string (bs s), .slice a xs.length cap]] W fun e w' => ∃ a' cap', e = .returned (.agg #[.int .i64 N, .string (bs s), .slice a' xs.length cap']) ∧ Own2 w' W.heap.size a' cap' xs ∧ W.grownBy w' none := fun W hW => scopy_any ((N, s), xs) a cap W hW h0 hx8
  have HX := Lib.hid (h.grown g2)
  have G2 := Lib.hid g2
  have HN := Lib.hid hN
  obtain ⟨U, hU⟩ : ∃ U, U = bs [108, 101, 97, 115, 116] := ⟨_, rfl⟩
  rw [← hU] at cr ⊢
  have u0 : (U.toList == [115, 116, 101, 112, 115]) = false := by rw [hU, toL_bs]; decide
  have u1 : (U.toList == [116, 101, 120, 116]) = false := by rw [hU, toL_bs]; decide
  have u2 : (U.toList == [97, 108, 119, 97, 121, 115]) = false := by rw [hU, toL_bs]; decide
  have u3 : (U.toList == [108, 101, 97, 115, 116]) = true := by rw [hU, toL_bs]; decide
  have ca : ∀ W, Calls Tryz.prog 66 #[.int .i64 N, .string (bs s)] W fun e w' => e = .returned (.int .i64 (leastI N s)) ∧ W.grownBy w' none := fun W => sleast_any N (bs s) W
  have cn : ∀ W, Calls Tryz.prog 65 #[.int .i64 N, .int .i64 (leastI N s)] W fun e w' => e = .returned (.string (ansQ N s 3)) ∧ W.grownBy w' none := fun W => stext_any N (leastI N s) W
  generalize leastI N s = B at ca cn
  obtain ⟨Y, hY⟩ : ∃ Y, Y = ansQ N s 3 := ⟨_, rfl⟩
  rw [← hY] at cn ⊢
  clear hY
  clear h g2 hd hx8 hU
  go_enter Tryz.func21, Tryz.ntmps21
  go_wp2_with fail
  generalize (w.alloc (.cells #[.int .i64 N, .string (bs s), .slice a xs.length cap] 32)).alloc (.cells #[.int .i64 0, .string ⟨#[]⟩, .slice none 0 0] 32) = W at *
  refine ck.mono ?_
  rintro e w1 ⟨rfl, hg1⟩
  have G1 := Lib.hid (grownBy_trans G2.out hg1)
  have HX1 := Lib.hid (HX.out.grown hg1)
  have hD1 := Lib.hid (hD.out.grown hg1)
  have hZ1 := Lib.hid (hZ.out.grown hg1)
  obtain ⟨d0, d1, d2⟩ := hD1.out.three
  clear ck hg1
  go_wp2_with fail
  refine (cc _ HX1.out).mono ?_
  rintro e w2 ⟨a', c', rfl, ho, hg2⟩
  have gA := World.grownBy_alloc w2 (.cells #[.int .i64 N, .string (bs s), .slice a' xs.length c'] 32) none
  have g12 := grownBy_trans hg2 gA
  have G12 := Lib.hid (grownBy_trans G1.out g12)
  have hD2 := Lib.hid (hD1.out.grown g12)
  have hZ2 := Lib.hid (hZ1.out.grown g12)
  have hS2 := Lib.hid (CellsAt.new w2 #[.int .i64 N, .string (bs s), .slice a' xs.length c'] 32)
  have HO := Lib.hid ((ho.kept gA).l.mono G1.out.size)
  have HB := Lib.hid ho.bare
  have hb2 : Hid (w.heap.size + 2 ≤ w2.heap.size) := Lib.hid (by
    have := hZ1.out.lt; have := hg2.size; omega)
  clear cc ho hg2 gA g12 d0 d1 d2
  go_wp2_with fail
  generalize w2.alloc (.cells #[.int .i64 N, .string (bs s), .slice a' xs.length c'] 32) = W2 at *
  generalize w2.heap.size = sb at *
  refine (cr _).mono ?_
  rintro e w3 ⟨rfl, hg3⟩
  have gA3 := grownBy_trans hg3 (World.grownBy_alloc w3 (.cells #[.int .i64 0, .int .i64 0, .string ⟨#[]⟩] 40) none)
  have G3 := Lib.hid (grownBy_trans G12.out gA3)
  have hD3 := Lib.hid (hD2.out.grown gA3)
  have hZ3 := Lib.hid (hZ2.out.grown gA3)
  have hS3 := Lib.hid (hS2.out.grown gA3)
  have HO3 := Lib.hid (HO.out.kept gA3)
  obtain ⟨d0, d1, d2⟩ := hD3.out.three
  obtain ⟨s0, s1, s2⟩ := hS3.out.three
  obtain ⟨⟨y0, y1, y2⟩, v0, v1, v2⟩ := dk_facts hZ3.out
  clear cr hg3 gA3
  go_wp2_with fail
  generalize w3.alloc (.cells #[.int .i64 0, .int .i64 0, .string ⟨#[]⟩] 40) = W3 at *
  go_region_with (first | (go_at_call 66; (with_reducible refine (ca _).mono ?_); rintro e wa ⟨rfl, ga⟩; have GA := Lib.hid (drew_grown ga); obtain ⟨s0a, s1a, s2a⟩ := (hS3.out.grown GA.out).three; clear ga) | (go_at_call 65; (with_reducible refine (cn _).mono ?_); rintro e wn ⟨rfl, gn⟩; have GN := Lib.hid (grownBy_trans GA.out gn); have HZn := Lib.hid (hZ3.out.grown GN.out); obtain ⟨s0n, s1n, s2n⟩ := (hS3.out.grown GN.out).three; obtain ⟨⟨y0, y1, y2⟩, v0, v1, v2⟩ := dk_facts HZn.out; have HO := Lib.hid (HO3.out.kept GN.out); clear gn))
  all_goals go_wp2_with fail
  all_goals
    have P : LinePost (((N, s), xs), Y) w (.returned (.tuple #[.agg #[.int .i64 N, .string (bs s), .slice a' xs.length c'], .string Y])) (((wn.setCell ⟨w.heap.size + 1, 0, none⟩ (.int .i64 N)).setCell ⟨w.heap.size + 1, 1, none⟩ (.string (bs s))).setCell ⟨w.heap.size + 1, 2, none⟩ (.slice a' xs.length c')) :=
      ⟨a', c', rfl, HO.out.put3 ⟨_, HZn.out⟩ _ _ _, HB.out, put3_grown _ (grownBy_trans G3.out GN.out) (by omega) _ _ _⟩
    exact bodyPost_ret (v := .tuple #[.agg #[.int .i64 N, .string (bs s), .slice a' xs.length c'], .string Y]) (resDkB (b := .string Y) rfl _ rfl rfl (HZn.out.put3 (.int .i64 N) (.string (bs s)) (.slice a' xs.length c'))) rfl P

set_option maxRecDepth 8000 in
set_option maxHeartbeats 2000000 in
theorem sdl_q4n (N : Nat) (s : List UInt8) (xs : List Ld) (hk : agI N s = none) (a : Option Addr) (cap : Nat) (w : World) (hN : NowOk N s) (h : LdsAt w a xs) (h0 : a = none → cap = 0) (hd : dkB (((N : Int), s), xs) = true) :
    Calls Tryz.prog 21 #[.agg #[.int .i64 N, .string (bs s), .slice a xs.length cap], .string (bs [97, 103, 97, 105, 110, 115, 116])] w (LinePost (((N, s), xs), ansQ N s 4) w) := by
  have g2 : w.grownBy ((w.alloc (.cells #[.int .i64 N, .string (bs s), .slice a xs.length cap] 32)).alloc (.cells #[.int .i64 0, .string ⟨#[]⟩, .slice none 0 0] 32)) none := grownBy_trans (World.grownBy_alloc w _ none) (World.grownBy_alloc _ _ none)
  have hZ := Lib.hid (CellsAt.second w (.cells #[.int .i64 N, .string (bs s), .slice a xs.length cap] 32) #[.int .i64 0, .string ⟨#[]⟩, .slice none 0 0] 32)
  have hD := Lib.hid (CellsAt.first w (.cells #[.int .i64 0, .string ⟨#[]⟩, .slice none 0 0] 32) #[.int .i64 N, .string (bs s), .slice a xs.length cap] 32)
  have ck := sdesk_is ((N, s), xs) a cap _ (h.grown g2)
  rw [hd] at ck
  unfold dkV at ck
  have cr := fun w => srd_v [97, 103, 97, 105, 110, 115, 116] _ (rdV_none (by decide)) w (by decide)
  unfold ddV nilDd at cr
  rw [show bs ([] : List UInt8) = ⟨#[]⟩ from rfl] at cr
  have hx8 : xs.length ≤ 9 := by have := (dkB_of hd).2.2; change xs.length ≤ 8 at this; omega
  have cc : ∀ W, LdsAt W a xs → Calls Tryz.prog 60 #[.agg #[.int .i64 N, .string (bs s), .slice a xs.length cap]] W fun e w' => ∃ a' cap', e = .returned (.agg #[.int .i64 N, .string (bs s), .slice a' xs.length cap']) ∧ Own2 w' W.heap.size a' cap' xs ∧ W.grownBy w' none := fun W hW => scopy_any ((N, s), xs) a cap W hW h0 hx8
  have HX := Lib.hid (h.grown g2)
  have G2 := Lib.hid g2
  have HN := Lib.hid hN
  obtain ⟨U, hU⟩ : ∃ U, U = bs [97, 103, 97, 105, 110, 115, 116] := ⟨_, rfl⟩
  rw [← hU] at cr ⊢
  have u0 : (U.toList == [115, 116, 101, 112, 115]) = false := by rw [hU, toL_bs]; decide
  have u1 : (U.toList == [116, 101, 120, 116]) = false := by rw [hU, toL_bs]; decide
  have u2 : (U.toList == [97, 108, 119, 97, 121, 115]) = false := by rw [hU, toL_bs]; decide
  have u3 : (U.toList == [108, 101, 97, 115, 116]) = false := by rw [hU, toL_bs]; decide
  have u4 : (U.toList == [97, 103, 97, 105, 110, 115, 116]) = true := by rw [hU, toL_bs]; decide
  have ca : ∀ W, Calls Tryz.prog 67 #[.int .i64 N, .string (bs s)] W fun e w' => e = .returned (agV N s) ∧ W.grownBy w' none := fun W => sagof_any N (bs s) W
  rw [agV_n hk] at ca
  rw [show ansQ N s 4 = noneA from by show rowA (agL N s) = _; unfold agL; rw [hk]; rfl]
  unfold noneA
  clear h g2 hd hx8 hU hk
  go_enter Tryz.func21, Tryz.ntmps21
  go_wp2_with fail
  generalize (w.alloc (.cells #[.int .i64 N, .string (bs s), .slice a xs.length cap] 32)).alloc (.cells #[.int .i64 0, .string ⟨#[]⟩, .slice none 0 0] 32) = W at *
  refine ck.mono ?_
  rintro e w1 ⟨rfl, hg1⟩
  have G1 := Lib.hid (grownBy_trans G2.out hg1)
  have HX1 := Lib.hid (HX.out.grown hg1)
  have hD1 := Lib.hid (hD.out.grown hg1)
  have hZ1 := Lib.hid (hZ.out.grown hg1)
  obtain ⟨d0, d1, d2⟩ := hD1.out.three
  clear ck hg1
  go_wp2_with fail
  refine (cc _ HX1.out).mono ?_
  rintro e w2 ⟨a', c', rfl, ho, hg2⟩
  have gA := World.grownBy_alloc w2 (.cells #[.int .i64 N, .string (bs s), .slice a' xs.length c'] 32) none
  have g12 := grownBy_trans hg2 gA
  have G12 := Lib.hid (grownBy_trans G1.out g12)
  have hD2 := Lib.hid (hD1.out.grown g12)
  have hZ2 := Lib.hid (hZ1.out.grown g12)
  have hS2 := Lib.hid (CellsAt.new w2 #[.int .i64 N, .string (bs s), .slice a' xs.length c'] 32)
  have HO := Lib.hid ((ho.kept gA).l.mono G1.out.size)
  have HB := Lib.hid ho.bare
  have hb2 : Hid (w.heap.size + 2 ≤ w2.heap.size) := Lib.hid (by
    have := hZ1.out.lt; have := hg2.size; omega)
  clear cc ho hg2 gA g12 d0 d1 d2
  go_wp2_with fail
  generalize w2.alloc (.cells #[.int .i64 N, .string (bs s), .slice a' xs.length c'] 32) = W2 at *
  generalize w2.heap.size = sb at *
  refine (cr _).mono ?_
  rintro e w3 ⟨rfl, hg3⟩
  have gA3 := grownBy_trans hg3 (World.grownBy_alloc w3 (.cells #[.int .i64 0, .int .i64 0, .string ⟨#[]⟩] 40) none)
  have G3 := Lib.hid (grownBy_trans G12.out gA3)
  have hD3 := Lib.hid (hD2.out.grown gA3)
  have hZ3 := Lib.hid (hZ2.out.grown gA3)
  have hS3 := Lib.hid (hS2.out.grown gA3)
  have HO3 := Lib.hid (HO.out.kept gA3)
  obtain ⟨d0, d1, d2⟩ := hD3.out.three
  obtain ⟨s0, s1, s2⟩ := hS3.out.three
  obtain ⟨⟨y0, y1, y2⟩, v0, v1, v2⟩ := dk_facts hZ3.out
  clear cr hg3 gA3
  go_wp2_with fail
  generalize w3.alloc (.cells #[.int .i64 0, .int .i64 0, .string ⟨#[]⟩] 40) = W3 at *
  refine (ca _).mono ?_
  rintro e w4 ⟨rfl, hg4⟩
  have hZ4 := Lib.hid (hZ3.out.grown hg4)
  have hS4 := Lib.hid (hS3.out.grown hg4)
  have G4 := Lib.hid (grownBy_trans G3.out hg4)
  have HO4 := Lib.hid (HO3.out.kept hg4)
  obtain ⟨s0n, s1n, s2n⟩ := hS4.out.three
  obtain ⟨⟨y0n, y1n, y2n⟩, v0n, v1n, v2n⟩ := dk_facts hZ4.out
  clear ca hg4 hZ3 hS3 G3 HO3
  go_wp2_with fail
  have HZn := hZ4
  have HO := HO4
  have G3 := G4
  have GN : Hid (w4.grownBy w4 none) := Lib.hid (grownBy_refl _ _)
  have P : LinePost (((N, s), xs), ⟨#[110, 111, 110, 101]⟩) w (.returned (.tuple #[.agg #[.int .i64 N, .string (bs s), .slice a' xs.length c'], .string ⟨#[110, 111, 110, 101]⟩])) (((w4.setCell ⟨w.heap.size + 1, 0, none⟩ (.int .i64 N)).setCell ⟨w.heap.size + 1, 1, none⟩ (.string (bs s))).setCell ⟨w.heap.size + 1, 2, none⟩ (.slice a' xs.length c')) :=
    ⟨a', c', rfl, HO.out.put3 ⟨_, HZn.out⟩ _ _ _, HB.out, put3_grown _ (grownBy_trans G3.out GN.out) (by omega) _ _ _⟩
  exact bodyPost_ret (v := .tuple #[.agg #[.int .i64 N, .string (bs s), .slice a' xs.length c'], .string ⟨#[110, 111, 110, 101]⟩]) (resDkB (b := .string ⟨#[110, 111, 110, 101]⟩) rfl _ rfl rfl (HZn.out.put3 (.int .i64 N) (.string (bs s)) (.slice a' xs.length c'))) rfl P

set_option maxRecDepth 8000 in
set_option maxHeartbeats 2000000 in
theorem sdl_q4s (N : Nat) (s : List UInt8) (xs : List Ld) (k : Nat) (hk : agI N s = some k) (a : Option Addr) (cap : Nat) (w : World) (hN : NowOk N s) (h : LdsAt w a xs) (h0 : a = none → cap = 0) (hd : dkB (((N : Int), s), xs) = true) :
    Calls Tryz.prog 21 #[.agg #[.int .i64 N, .string (bs s), .slice a xs.length cap], .string (bs [97, 103, 97, 105, 110, 115, 116])] w (LinePost (((N, s), xs), ansQ N s 4) w) := by
  have g2 : w.grownBy ((w.alloc (.cells #[.int .i64 N, .string (bs s), .slice a xs.length cap] 32)).alloc (.cells #[.int .i64 0, .string ⟨#[]⟩, .slice none 0 0] 32)) none := grownBy_trans (World.grownBy_alloc w _ none) (World.grownBy_alloc _ _ none)
  have hZ := Lib.hid (CellsAt.second w (.cells #[.int .i64 N, .string (bs s), .slice a xs.length cap] 32) #[.int .i64 0, .string ⟨#[]⟩, .slice none 0 0] 32)
  have hD := Lib.hid (CellsAt.first w (.cells #[.int .i64 0, .string ⟨#[]⟩, .slice none 0 0] 32) #[.int .i64 N, .string (bs s), .slice a xs.length cap] 32)
  have ck := sdesk_is ((N, s), xs) a cap _ (h.grown g2)
  rw [hd] at ck
  unfold dkV at ck
  have cr := fun w => srd_v [97, 103, 97, 105, 110, 115, 116] _ (rdV_none (by decide)) w (by decide)
  unfold ddV nilDd at cr
  rw [show bs ([] : List UInt8) = ⟨#[]⟩ from rfl] at cr
  have hx8 : xs.length ≤ 9 := by have := (dkB_of hd).2.2; change xs.length ≤ 8 at this; omega
  have cc : ∀ W, LdsAt W a xs → Calls Tryz.prog 60 #[.agg #[.int .i64 N, .string (bs s), .slice a xs.length cap]] W fun e w' => ∃ a' cap', e = .returned (.agg #[.int .i64 N, .string (bs s), .slice a' xs.length cap']) ∧ Own2 w' W.heap.size a' cap' xs ∧ W.grownBy w' none := fun W hW => scopy_any ((N, s), xs) a cap W hW h0 hx8
  have HX := Lib.hid (h.grown g2)
  have G2 := Lib.hid g2
  have HN := Lib.hid hN
  obtain ⟨U, hU⟩ : ∃ U, U = bs [97, 103, 97, 105, 110, 115, 116] := ⟨_, rfl⟩
  rw [← hU] at cr ⊢
  have u0 : (U.toList == [115, 116, 101, 112, 115]) = false := by rw [hU, toL_bs]; decide
  have u1 : (U.toList == [116, 101, 120, 116]) = false := by rw [hU, toL_bs]; decide
  have u2 : (U.toList == [97, 108, 119, 97, 121, 115]) = false := by rw [hU, toL_bs]; decide
  have u3 : (U.toList == [108, 101, 97, 115, 116]) = false := by rw [hU, toL_bs]; decide
  have u4 : (U.toList == [97, 103, 97, 105, 110, 115, 116]) = true := by rw [hU, toL_bs]; decide
  have ca : ∀ W, Calls Tryz.prog 67 #[.int .i64 N, .string (bs s)] W fun e w' => e = .returned (agV N s) ∧ W.grownBy w' none := fun W => sagof_any N (bs s) W
  rw [agV_s hk] at ca
  have hag : agL N s = [(tA N k : Int), tB N k, tC N k] := by unfold agL; rw [hk]; rfl
  have hcx := agL_99 hN
  have cn : ∀ W ai, IntsAt W ai [(tA N k : Int), tB N k, tC N k] → Calls Tryz.prog 68 #[.slice ai 3 3] W fun e w' => e = .returned (.string (ansQ N s 4)) ∧ W.grownBy w' none := fun W ai hi => by
    have hv : ansQ N s 4 = rowA [(tA N k : Int), tB N k, tC N k] := by
      show rowA (agL N s) = _
      rw [hag]
    rw [hv]
    exact srowt_any [(tA N k : Int), tB N k, tC N k] (by rw [← hag]; exact hcx.1) (by simp) ai 3 W hi
  generalize (tA N k : Int) = X1, (tB N k : Int) = X2, (tC N k : Int) = X3 at *
  clear hag hcx
  obtain ⟨Y, hY⟩ : ∃ Y, Y = ansQ N s 4 := ⟨_, rfl⟩
  rw [← hY] at cn ⊢
  clear hY
  clear h g2 hd hx8 hU hk
  go_enter Tryz.func21, Tryz.ntmps21
  go_wp2_with fail
  generalize (w.alloc (.cells #[.int .i64 N, .string (bs s), .slice a xs.length cap] 32)).alloc (.cells #[.int .i64 0, .string ⟨#[]⟩, .slice none 0 0] 32) = W at *
  refine ck.mono ?_
  rintro e w1 ⟨rfl, hg1⟩
  have G1 := Lib.hid (grownBy_trans G2.out hg1)
  have HX1 := Lib.hid (HX.out.grown hg1)
  have hD1 := Lib.hid (hD.out.grown hg1)
  have hZ1 := Lib.hid (hZ.out.grown hg1)
  obtain ⟨d0, d1, d2⟩ := hD1.out.three
  clear ck hg1
  go_wp2_with fail
  refine (cc _ HX1.out).mono ?_
  rintro e w2 ⟨a', c', rfl, ho, hg2⟩
  have gA := World.grownBy_alloc w2 (.cells #[.int .i64 N, .string (bs s), .slice a' xs.length c'] 32) none
  have g12 := grownBy_trans hg2 gA
  have G12 := Lib.hid (grownBy_trans G1.out g12)
  have hD2 := Lib.hid (hD1.out.grown g12)
  have hZ2 := Lib.hid (hZ1.out.grown g12)
  have hS2 := Lib.hid (CellsAt.new w2 #[.int .i64 N, .string (bs s), .slice a' xs.length c'] 32)
  have HO := Lib.hid ((ho.kept gA).l.mono G1.out.size)
  have HB := Lib.hid ho.bare
  have hb2 : Hid (w.heap.size + 2 ≤ w2.heap.size) := Lib.hid (by
    have := hZ1.out.lt; have := hg2.size; omega)
  clear cc ho hg2 gA g12 d0 d1 d2
  go_wp2_with fail
  generalize w2.alloc (.cells #[.int .i64 N, .string (bs s), .slice a' xs.length c'] 32) = W2 at *
  generalize w2.heap.size = sb at *
  refine (cr _).mono ?_
  rintro e w3 ⟨rfl, hg3⟩
  have gA3 := grownBy_trans hg3 (World.grownBy_alloc w3 (.cells #[.int .i64 0, .int .i64 0, .string ⟨#[]⟩] 40) none)
  have G3 := Lib.hid (grownBy_trans G12.out gA3)
  have hD3 := Lib.hid (hD2.out.grown gA3)
  have hZ3 := Lib.hid (hZ2.out.grown gA3)
  have hS3 := Lib.hid (hS2.out.grown gA3)
  have HO3 := Lib.hid (HO.out.kept gA3)
  obtain ⟨d0, d1, d2⟩ := hD3.out.three
  obtain ⟨s0, s1, s2⟩ := hS3.out.three
  obtain ⟨⟨y0, y1, y2⟩, v0, v1, v2⟩ := dk_facts hZ3.out
  clear cr hg3 gA3
  go_wp2_with fail
  generalize w3.alloc (.cells #[.int .i64 0, .int .i64 0, .string ⟨#[]⟩] 40) = W3 at *
  refine (ca _).mono ?_
  rintro e w4 ⟨rfl, hg4⟩
  have hZ4 := Lib.hid (hZ3.out.grown hg4)
  have hS4 := Lib.hid (hS3.out.grown hg4)
  have G4 := Lib.hid (grownBy_trans G3.out hg4)
  have HO4 := Lib.hid (HO3.out.kept hg4)
  obtain ⟨s0n, s1n, s2n⟩ := hS4.out.three
  obtain ⟨⟨y0n, y1n, y2n⟩, v0n, v1n, v2n⟩ := dk_facts hZ4.out
  clear ca hg4 hZ3 hS3 G3 HO3
  go_wp2_with fail
  have m0 : ∀ o, (w4.alloc o).cell? ⟨sb, 0, none⟩ = some (.int .i64 N) := fun o => (hS4.out.grown (World.grownBy_alloc w4 o none)).three.1
  have m1 : ∀ o, (w4.alloc o).cell? ⟨sb, 1, none⟩ = some (.string (bs s)) := fun o => (hS4.out.grown (World.grownBy_alloc w4 o none)).three.2.1
  have m2 : ∀ o, (w4.alloc o).cell? ⟨sb, 2, none⟩ = some (.slice a' xs.length c') := fun o => (hS4.out.grown (World.grownBy_alloc w4 o none)).three.2.2
  have hZ3 := hZ4
  have hS3 := hS4
  have G3 := G4
  have HO3 := HO4
  go_region_with (first | (go_at_call 68; (first | (with_reducible refine (cn _ _ ((ints3 w4 X1 X2 X3).grown (grownBy_drew (grownBy_refl _ _)))).mono ?_) | (with_reducible refine (cn _ _ (ints3 w4.drew X1 X2 X3)).mono ?_)); rintro e wn ⟨rfl, gn⟩; have GN := Lib.hid (show w4.grownBy wn none by first | exact grownBy_trans (World.grownBy_alloc w4 _ none) (drew_grown gn) | exact drew_grown (grownBy_trans (World.grownBy_alloc _ _ none) gn)); have HZn := Lib.hid (hZ3.out.grown GN.out); obtain ⟨s0n, s1n, s2n⟩ := (hS3.out.grown GN.out).three; obtain ⟨⟨y0, y1, y2⟩, v0, v1, v2⟩ := dk_facts HZn.out; have HO := Lib.hid (HO3.out.kept GN.out); clear gn))
  all_goals go_wp2_with fail
  all_goals
    have P : LinePost (((N, s), xs), Y) w (.returned (.tuple #[.agg #[.int .i64 N, .string (bs s), .slice a' xs.length c'], .string Y])) (((wn.setCell ⟨w.heap.size + 1, 0, none⟩ (.int .i64 N)).setCell ⟨w.heap.size + 1, 1, none⟩ (.string (bs s))).setCell ⟨w.heap.size + 1, 2, none⟩ (.slice a' xs.length c')) :=
      ⟨a', c', rfl, HO.out.put3 ⟨_, HZn.out⟩ _ _ _, HB.out, put3_grown _ (grownBy_trans G3.out GN.out) (by omega) _ _ _⟩
    exact bodyPost_ret (v := .tuple #[.agg #[.int .i64 N, .string (bs s), .slice a' xs.length c'], .string Y]) (resDkB (b := .string Y) rfl _ rfl rfl (HZn.out.put3 (.int .i64 N) (.string (bs s)) (.slice a' xs.length c'))) rfl P

end Go.Proofs.YtlnffpofbfigaaaGreatDoor

/-
  The model's DeskLine at a line of one word that asks.
-/
namespace Go.Proofs.YtlnffpofbfigaaaGreatDoor
open Go.RowKit

set_option maxRecDepth 8000 in
set_option maxHeartbeats 2000000 in
theorem sdl_q5 (N : Nat) (s : List UInt8) (xs : List Ld) (a : Option Addr) (cap : Nat) (w : World) (hN : NowOk N s) (h : LdsAt w a xs) (h0 : a = none → cap = 0) (hd : dkB (((N : Int), s), xs) = true) :
    Calls Tryz.prog 21 #[.agg #[.int .i64 N, .string (bs s), .slice a xs.length cap], .string (bs [99, 104, 97, 105, 110, 115])] w (LinePost (((N, s), xs), ansQ N s 5) w) := by
  have g2 : w.grownBy ((w.alloc (.cells #[.int .i64 N, .string (bs s), .slice a xs.length cap] 32)).alloc (.cells #[.int .i64 0, .string ⟨#[]⟩, .slice none 0 0] 32)) none := grownBy_trans (World.grownBy_alloc w _ none) (World.grownBy_alloc _ _ none)
  have hZ := Lib.hid (CellsAt.second w (.cells #[.int .i64 N, .string (bs s), .slice a xs.length cap] 32) #[.int .i64 0, .string ⟨#[]⟩, .slice none 0 0] 32)
  have hD := Lib.hid (CellsAt.first w (.cells #[.int .i64 0, .string ⟨#[]⟩, .slice none 0 0] 32) #[.int .i64 N, .string (bs s), .slice a xs.length cap] 32)
  have ck := sdesk_is ((N, s), xs) a cap _ (h.grown g2)
  rw [hd] at ck
  unfold dkV at ck
  have cr := fun w => srd_v [99, 104, 97, 105, 110, 115] _ (rdV_none (by decide)) w (by decide)
  unfold ddV nilDd at cr
  rw [show bs ([] : List UInt8) = ⟨#[]⟩ from rfl] at cr
  have hx8 : xs.length ≤ 9 := by have := (dkB_of hd).2.2; change xs.length ≤ 8 at this; omega
  have cc : ∀ W, LdsAt W a xs → Calls Tryz.prog 60 #[.agg #[.int .i64 N, .string (bs s), .slice a xs.length cap]] W fun e w' => ∃ a' cap', e = .returned (.agg #[.int .i64 N, .string (bs s), .slice a' xs.length cap']) ∧ Own2 w' W.heap.size a' cap' xs ∧ W.grownBy w' none := fun W hW => scopy_any ((N, s), xs) a cap W hW h0 hx8
  have HX := Lib.hid (h.grown g2)
  have G2 := Lib.hid g2
  have HN := Lib.hid hN
  obtain ⟨U, hU⟩ : ∃ U, U = bs [99, 104, 97, 105, 110, 115] := ⟨_, rfl⟩
  rw [← hU] at cr ⊢
  have u0 : (U.toList == [115, 116, 101, 112, 115]) = false := by rw [hU, toL_bs]; decide
  have u1 : (U.toList == [116, 101, 120, 116]) = false := by rw [hU, toL_bs]; decide
  have u2 : (U.toList == [97, 108, 119, 97, 121, 115]) = false := by rw [hU, toL_bs]; decide
  have u3 : (U.toList == [108, 101, 97, 115, 116]) = false := by rw [hU, toL_bs]; decide
  have u4 : (U.toList == [97, 103, 97, 105, 110, 115, 116]) = false := by rw [hU, toL_bs]; decide
  have u5 : (U.toList == [99, 104, 97, 105, 110, 115]) = true := by rw [hU, toL_bs]; decide
  have hcx := chI_99 s
  have ca : ∀ W, Calls Tryz.prog 69 #[.string (bs s)] W fun e w' => ∃ a cap, e = .returned (.slice a (chI s).length cap) ∧ OwnI w' W.heap.size a cap (chI s) ∧ W.grownBy w' none := fun W => schains_any (bs s) W
  have cn : ∀ W ai ci, IntsAt W ai (chI s) → Calls Tryz.prog 68 #[.slice ai (chI s).length ci] W fun e w' => e = .returned (.string (ansQ N s 5)) ∧ W.grownBy w' none := fun W ai ci hi => srowt_any (chI s) hcx.1 (by have := hcx.2; omega) ai ci W hi
  have HXL : Hid ((chI s).length ≤ maxLen) := Lib.hid (by have := hcx.2; unfold maxLen; omega)
  clear hcx
  generalize chI s = B at ca cn HXL
  obtain ⟨Y, hY⟩ : ∃ Y, Y = ansQ N s 5 := ⟨_, rfl⟩
  rw [← hY] at cn ⊢
  clear hY
  clear h g2 hd hx8 hU
  go_enter Tryz.func21, Tryz.ntmps21
  go_wp2_with fail
  generalize (w.alloc (.cells #[.int .i64 N, .string (bs s), .slice a xs.length cap] 32)).alloc (.cells #[.int .i64 0, .string ⟨#[]⟩, .slice none 0 0] 32) = W at *
  refine ck.mono ?_
  rintro e w1 ⟨rfl, hg1⟩
  have G1 := Lib.hid (grownBy_trans G2.out hg1)
  have HX1 := Lib.hid (HX.out.grown hg1)
  have hD1 := Lib.hid (hD.out.grown hg1)
  have hZ1 := Lib.hid (hZ.out.grown hg1)
  obtain ⟨d0, d1, d2⟩ := hD1.out.three
  clear ck hg1
  go_wp2_with fail
  refine (cc _ HX1.out).mono ?_
  rintro e w2 ⟨a', c', rfl, ho, hg2⟩
  have gA := World.grownBy_alloc w2 (.cells #[.int .i64 N, .string (bs s), .slice a' xs.length c'] 32) none
  have g12 := grownBy_trans hg2 gA
  have G12 := Lib.hid (grownBy_trans G1.out g12)
  have hD2 := Lib.hid (hD1.out.grown g12)
  have hZ2 := Lib.hid (hZ1.out.grown g12)
  have hS2 := Lib.hid (CellsAt.new w2 #[.int .i64 N, .string (bs s), .slice a' xs.length c'] 32)
  have HO := Lib.hid ((ho.kept gA).l.mono G1.out.size)
  have HB := Lib.hid ho.bare
  have hb2 : Hid (w.heap.size + 2 ≤ w2.heap.size) := Lib.hid (by
    have := hZ1.out.lt; have := hg2.size; omega)
  clear cc ho hg2 gA g12 d0 d1 d2
  go_wp2_with fail
  generalize w2.alloc (.cells #[.int .i64 N, .string (bs s), .slice a' xs.length c'] 32) = W2 at *
  generalize w2.heap.size = sb at *
  refine (cr _).mono ?_
  rintro e w3 ⟨rfl, hg3⟩
  have gA3 := grownBy_trans hg3 (World.grownBy_alloc w3 (.cells #[.int .i64 0, .int .i64 0, .string ⟨#[]⟩] 40) none)
  have G3 := Lib.hid (grownBy_trans G12.out gA3)
  have hD3 := Lib.hid (hD2.out.grown gA3)
  have hZ3 := Lib.hid (hZ2.out.grown gA3)
  have hS3 := Lib.hid (hS2.out.grown gA3)
  have HO3 := Lib.hid (HO.out.kept gA3)
  obtain ⟨d0, d1, d2⟩ := hD3.out.three
  obtain ⟨s0, s1, s2⟩ := hS3.out.three
  obtain ⟨⟨y0, y1, y2⟩, v0, v1, v2⟩ := dk_facts hZ3.out
  clear cr hg3 gA3
  go_wp2_with fail
  generalize w3.alloc (.cells #[.int .i64 0, .int .i64 0, .string ⟨#[]⟩] 40) = W3 at *
  go_region_with (first | (go_at_call 69; (with_reducible refine (ca _).mono ?_); rintro e wa ⟨ai, ci, rfl, hi, ga⟩; have GA := Lib.hid (drew_grown ga); obtain ⟨s0a, s1a, s2a⟩ := (hS3.out.grown GA.out).three; have HI := Lib.hid (hi.at HXL.out); clear hi; clear ga) | (go_at_call 68; (with_reducible refine (cn _ _ _ HI.out).mono ?_); rintro e wn ⟨rfl, gn⟩; have GN := Lib.hid (grownBy_trans GA.out gn); have HZn := Lib.hid (hZ3.out.grown GN.out); obtain ⟨s0n, s1n, s2n⟩ := (hS3.out.grown GN.out).three; obtain ⟨⟨y0, y1, y2⟩, v0, v1, v2⟩ := dk_facts HZn.out; have HO := Lib.hid (HO3.out.kept GN.out); clear gn))
  all_goals go_wp2_with fail
  all_goals
    have P : LinePost (((N, s), xs), Y) w (.returned (.tuple #[.agg #[.int .i64 N, .string (bs s), .slice a' xs.length c'], .string Y])) (((wn.setCell ⟨w.heap.size + 1, 0, none⟩ (.int .i64 N)).setCell ⟨w.heap.size + 1, 1, none⟩ (.string (bs s))).setCell ⟨w.heap.size + 1, 2, none⟩ (.slice a' xs.length c')) :=
      ⟨a', c', rfl, HO.out.put3 ⟨_, HZn.out⟩ _ _ _, HB.out, put3_grown _ (grownBy_trans G3.out GN.out) (by omega) _ _ _⟩
    exact bodyPost_ret (v := .tuple #[.agg #[.int .i64 N, .string (bs s), .slice a' xs.length c'], .string Y]) (resDkB (b := .string Y) rfl _ rfl rfl (HZn.out.put3 (.int .i64 N) (.string (bs s)) (.slice a' xs.length c'))) rfl P

set_option maxRecDepth 8000 in
set_option maxHeartbeats 2000000 in
theorem sdl_q6 (N : Nat) (s : List UInt8) (xs : List Ld) (a : Option Addr) (cap : Nat) (w : World) (hN : NowOk N s) (h : LdsAt w a xs) (h0 : a = none → cap = 0) (hd : dkB (((N : Int), s), xs) = true) :
    Calls Tryz.prog 21 #[.agg #[.int .i64 N, .string (bs s), .slice a xs.length cap], .string (bs [108, 101, 116, 116, 101, 114, 115])] w (LinePost (((N, s), xs), ansQ N s 6) w) := by
  have g2 : w.grownBy ((w.alloc (.cells #[.int .i64 N, .string (bs s), .slice a xs.length cap] 32)).alloc (.cells #[.int .i64 0, .string ⟨#[]⟩, .slice none 0 0] 32)) none := grownBy_trans (World.grownBy_alloc w _ none) (World.grownBy_alloc _ _ none)
  have hZ := Lib.hid (CellsAt.second w (.cells #[.int .i64 N, .string (bs s), .slice a xs.length cap] 32) #[.int .i64 0, .string ⟨#[]⟩, .slice none 0 0] 32)
  have hD := Lib.hid (CellsAt.first w (.cells #[.int .i64 0, .string ⟨#[]⟩, .slice none 0 0] 32) #[.int .i64 N, .string (bs s), .slice a xs.length cap] 32)
  have ck := sdesk_is ((N, s), xs) a cap _ (h.grown g2)
  rw [hd] at ck
  unfold dkV at ck
  have cr := fun w => srd_v [108, 101, 116, 116, 101, 114, 115] _ (rdV_none (by decide)) w (by decide)
  unfold ddV nilDd at cr
  rw [show bs ([] : List UInt8) = ⟨#[]⟩ from rfl] at cr
  have hx8 : xs.length ≤ 9 := by have := (dkB_of hd).2.2; change xs.length ≤ 8 at this; omega
  have cc : ∀ W, LdsAt W a xs → Calls Tryz.prog 60 #[.agg #[.int .i64 N, .string (bs s), .slice a xs.length cap]] W fun e w' => ∃ a' cap', e = .returned (.agg #[.int .i64 N, .string (bs s), .slice a' xs.length cap']) ∧ Own2 w' W.heap.size a' cap' xs ∧ W.grownBy w' none := fun W hW => scopy_any ((N, s), xs) a cap W hW h0 hx8
  have HX := Lib.hid (h.grown g2)
  have G2 := Lib.hid g2
  have HN := Lib.hid hN
  obtain ⟨U, hU⟩ : ∃ U, U = bs [108, 101, 116, 116, 101, 114, 115] := ⟨_, rfl⟩
  rw [← hU] at cr ⊢
  have u0 : (U.toList == [115, 116, 101, 112, 115]) = false := by rw [hU, toL_bs]; decide
  have u1 : (U.toList == [116, 101, 120, 116]) = false := by rw [hU, toL_bs]; decide
  have u2 : (U.toList == [97, 108, 119, 97, 121, 115]) = false := by rw [hU, toL_bs]; decide
  have u3 : (U.toList == [108, 101, 97, 115, 116]) = false := by rw [hU, toL_bs]; decide
  have u4 : (U.toList == [97, 103, 97, 105, 110, 115, 116]) = false := by rw [hU, toL_bs]; decide
  have u5 : (U.toList == [99, 104, 97, 105, 110, 115]) = false := by rw [hU, toL_bs]; decide
  have u6 : (U.toList == [108, 101, 116, 116, 101, 114, 115]) = true := by rw [hU, toL_bs]; decide
  obtain ⟨K, hK, hK9⟩ := lsI_99 hN
  have ca : ∀ W, Calls Tryz.prog 70 #[.string (bs s)] W fun e w' => e = .returned (.int .i64 (lsI s)) ∧ W = w' := fun W => sletters_any (bs s) W
  have cn := fun W => num99_any K hK9 W
  rw [show bs (decL K) = ansQ N s 6 from by show _ = bs (decL (lsI s).toNat); rw [hK]; rfl] at cn
  rw [hK] at ca
  clear hK9
  obtain ⟨Y, hY⟩ : ∃ Y, Y = ansQ N s 6 := ⟨_, rfl⟩
  rw [← hY] at cn ⊢
  clear hY
  clear h g2 hd hx8 hU
  go_enter Tryz.func21, Tryz.ntmps21
  go_wp2_with fail
  generalize (w.alloc (.cells #[.int .i64 N, .string (bs s), .slice a xs.length cap] 32)).alloc (.cells #[.int .i64 0, .string ⟨#[]⟩, .slice none 0 0] 32) = W at *
  refine ck.mono ?_
  rintro e w1 ⟨rfl, hg1⟩
  have G1 := Lib.hid (grownBy_trans G2.out hg1)
  have HX1 := Lib.hid (HX.out.grown hg1)
  have hD1 := Lib.hid (hD.out.grown hg1)
  have hZ1 := Lib.hid (hZ.out.grown hg1)
  obtain ⟨d0, d1, d2⟩ := hD1.out.three
  clear ck hg1
  go_wp2_with fail
  refine (cc _ HX1.out).mono ?_
  rintro e w2 ⟨a', c', rfl, ho, hg2⟩
  have gA := World.grownBy_alloc w2 (.cells #[.int .i64 N, .string (bs s), .slice a' xs.length c'] 32) none
  have g12 := grownBy_trans hg2 gA
  have G12 := Lib.hid (grownBy_trans G1.out g12)
  have hD2 := Lib.hid (hD1.out.grown g12)
  have hZ2 := Lib.hid (hZ1.out.grown g12)
  have hS2 := Lib.hid (CellsAt.new w2 #[.int .i64 N, .string (bs s), .slice a' xs.length c'] 32)
  have HO := Lib.hid ((ho.kept gA).l.mono G1.out.size)
  have HB := Lib.hid ho.bare
  have hb2 : Hid (w.heap.size + 2 ≤ w2.heap.size) := Lib.hid (by
    have := hZ1.out.lt; have := hg2.size; omega)
  clear cc ho hg2 gA g12 d0 d1 d2
  go_wp2_with fail
  generalize w2.alloc (.cells #[.int .i64 N, .string (bs s), .slice a' xs.length c'] 32) = W2 at *
  generalize w2.heap.size = sb at *
  refine (cr _).mono ?_
  rintro e w3 ⟨rfl, hg3⟩
  have gA3 := grownBy_trans hg3 (World.grownBy_alloc w3 (.cells #[.int .i64 0, .int .i64 0, .string ⟨#[]⟩] 40) none)
  have G3 := Lib.hid (grownBy_trans G12.out gA3)
  have hD3 := Lib.hid (hD2.out.grown gA3)
  have hZ3 := Lib.hid (hZ2.out.grown gA3)
  have hS3 := Lib.hid (hS2.out.grown gA3)
  have HO3 := Lib.hid (HO.out.kept gA3)
  obtain ⟨d0, d1, d2⟩ := hD3.out.three
  obtain ⟨s0, s1, s2⟩ := hS3.out.three
  obtain ⟨⟨y0, y1, y2⟩, v0, v1, v2⟩ := dk_facts hZ3.out
  clear cr hg3 gA3
  go_wp2_with fail
  generalize w3.alloc (.cells #[.int .i64 0, .int .i64 0, .string ⟨#[]⟩] 40) = W3 at *
  go_region_with (first | (go_at_call 70; (with_reducible refine (ca _).mono ?_); rintro e _ ⟨rfl, rfl⟩) | (go_at_call 62; (with_reducible refine (cn _).mono ?_); rintro e wn ⟨rfl, gn⟩; have GN := Lib.hid (drew_grown gn); have HZn := Lib.hid (hZ3.out.grown GN.out); obtain ⟨s0n, s1n, s2n⟩ := (hS3.out.grown GN.out).three; obtain ⟨⟨y0, y1, y2⟩, v0, v1, v2⟩ := dk_facts HZn.out; have HO := Lib.hid (HO3.out.kept GN.out); clear gn))
  all_goals go_wp2_with fail
  all_goals
    have P : LinePost (((N, s), xs), Y) w (.returned (.tuple #[.agg #[.int .i64 N, .string (bs s), .slice a' xs.length c'], .string Y])) (((wn.setCell ⟨w.heap.size + 1, 0, none⟩ (.int .i64 N)).setCell ⟨w.heap.size + 1, 1, none⟩ (.string (bs s))).setCell ⟨w.heap.size + 1, 2, none⟩ (.slice a' xs.length c')) :=
      ⟨a', c', rfl, HO.out.put3 ⟨_, HZn.out⟩ _ _ _, HB.out, put3_grown _ (grownBy_trans G3.out GN.out) (by omega) _ _ _⟩
    exact bodyPost_ret (v := .tuple #[.agg #[.int .i64 N, .string (bs s), .slice a' xs.length c'], .string Y]) (resDkB (b := .string Y) rfl _ rfl rfl (HZn.out.put3 (.int .i64 N) (.string (bs s)) (.slice a' xs.length c'))) rfl P

set_option maxRecDepth 8000 in
set_option maxHeartbeats 2000000 in
theorem sdl_q7 (N : Nat) (s : List UInt8) (xs : List Ld) (a : Option Addr) (cap : Nat) (w : World) (hN : NowOk N s) (h : LdsAt w a xs) (h0 : a = none → cap = 0) (hd : dkB (((N : Int), s), xs) = true) :
    Calls Tryz.prog 21 #[.agg #[.int .i64 N, .string (bs s), .slice a xs.length cap], .string (bs [109, 111, 118, 101, 115])] w (LinePost (((N, s), xs), ansQ N s 7) w) := by
  have g2 : w.grownBy ((w.alloc (.cells #[.int .i64 N, .string (bs s), .slice a xs.length cap] 32)).alloc (.cells #[.int .i64 0, .string ⟨#[]⟩, .slice none 0 0] 32)) none := grownBy_trans (World.grownBy_alloc w _ none) (World.grownBy_alloc _ _ none)
  have hZ := Lib.hid (CellsAt.second w (.cells #[.int .i64 N, .string (bs s), .slice a xs.length cap] 32) #[.int .i64 0, .string ⟨#[]⟩, .slice none 0 0] 32)
  have hD := Lib.hid (CellsAt.first w (.cells #[.int .i64 0, .string ⟨#[]⟩, .slice none 0 0] 32) #[.int .i64 N, .string (bs s), .slice a xs.length cap] 32)
  have ck := sdesk_is ((N, s), xs) a cap _ (h.grown g2)
  rw [hd] at ck
  unfold dkV at ck
  have cr := fun w => srd_v [109, 111, 118, 101, 115] _ (rdV_none (by decide)) w (by decide)
  unfold ddV nilDd at cr
  rw [show bs ([] : List UInt8) = ⟨#[]⟩ from rfl] at cr
  have hx8 : xs.length ≤ 9 := by have := (dkB_of hd).2.2; change xs.length ≤ 8 at this; omega
  have cc : ∀ W, LdsAt W a xs → Calls Tryz.prog 60 #[.agg #[.int .i64 N, .string (bs s), .slice a xs.length cap]] W fun e w' => ∃ a' cap', e = .returned (.agg #[.int .i64 N, .string (bs s), .slice a' xs.length cap']) ∧ Own2 w' W.heap.size a' cap' xs ∧ W.grownBy w' none := fun W hW => scopy_any ((N, s), xs) a cap W hW h0 hx8
  have HX := Lib.hid (h.grown g2)
  have G2 := Lib.hid g2
  have HN := Lib.hid hN
  obtain ⟨U, hU⟩ : ∃ U, U = bs [109, 111, 118, 101, 115] := ⟨_, rfl⟩
  rw [← hU] at cr ⊢
  have u0 : (U.toList == [115, 116, 101, 112, 115]) = false := by rw [hU, toL_bs]; decide
  have u1 : (U.toList == [116, 101, 120, 116]) = false := by rw [hU, toL_bs]; decide
  have u2 : (U.toList == [97, 108, 119, 97, 121, 115]) = false := by rw [hU, toL_bs]; decide
  have u3 : (U.toList == [108, 101, 97, 115, 116]) = false := by rw [hU, toL_bs]; decide
  have u4 : (U.toList == [97, 103, 97, 105, 110, 115, 116]) = false := by rw [hU, toL_bs]; decide
  have u5 : (U.toList == [99, 104, 97, 105, 110, 115]) = false := by rw [hU, toL_bs]; decide
  have u6 : (U.toList == [108, 101, 116, 116, 101, 114, 115]) = false := by rw [hU, toL_bs]; decide
  have u7 : (U.toList == [109, 111, 118, 101, 115]) = true := by rw [hU, toL_bs]; decide
  obtain ⟨K, hK, hK9⟩ := movI_99 hN
  have ca : ∀ W, Calls Tryz.prog 71 #[.int .i64 N, .string (bs s)] W fun e w' => e = .returned (.int .i64 (movI N s)) ∧ W.grownBy w' none := fun W => smov_any N (bs s) W
  have cn := fun W => num99_any K hK9 W
  rw [show bs (decL K) = ansQ N s 7 from by show _ = bs (decL (movI N s).toNat); rw [hK]; rfl] at cn
  rw [hK] at ca
  clear hK9
  obtain ⟨Y, hY⟩ : ∃ Y, Y = ansQ N s 7 := ⟨_, rfl⟩
  rw [← hY] at cn ⊢
  clear hY
  clear h g2 hd hx8 hU
  go_enter Tryz.func21, Tryz.ntmps21
  go_wp2_with fail
  generalize (w.alloc (.cells #[.int .i64 N, .string (bs s), .slice a xs.length cap] 32)).alloc (.cells #[.int .i64 0, .string ⟨#[]⟩, .slice none 0 0] 32) = W at *
  refine ck.mono ?_
  rintro e w1 ⟨rfl, hg1⟩
  have G1 := Lib.hid (grownBy_trans G2.out hg1)
  have HX1 := Lib.hid (HX.out.grown hg1)
  have hD1 := Lib.hid (hD.out.grown hg1)
  have hZ1 := Lib.hid (hZ.out.grown hg1)
  obtain ⟨d0, d1, d2⟩ := hD1.out.three
  clear ck hg1
  go_wp2_with fail
  refine (cc _ HX1.out).mono ?_
  rintro e w2 ⟨a', c', rfl, ho, hg2⟩
  have gA := World.grownBy_alloc w2 (.cells #[.int .i64 N, .string (bs s), .slice a' xs.length c'] 32) none
  have g12 := grownBy_trans hg2 gA
  have G12 := Lib.hid (grownBy_trans G1.out g12)
  have hD2 := Lib.hid (hD1.out.grown g12)
  have hZ2 := Lib.hid (hZ1.out.grown g12)
  have hS2 := Lib.hid (CellsAt.new w2 #[.int .i64 N, .string (bs s), .slice a' xs.length c'] 32)
  have HO := Lib.hid ((ho.kept gA).l.mono G1.out.size)
  have HB := Lib.hid ho.bare
  have hb2 : Hid (w.heap.size + 2 ≤ w2.heap.size) := Lib.hid (by
    have := hZ1.out.lt; have := hg2.size; omega)
  clear cc ho hg2 gA g12 d0 d1 d2
  go_wp2_with fail
  generalize w2.alloc (.cells #[.int .i64 N, .string (bs s), .slice a' xs.length c'] 32) = W2 at *
  generalize w2.heap.size = sb at *
  refine (cr _).mono ?_
  rintro e w3 ⟨rfl, hg3⟩
  have gA3 := grownBy_trans hg3 (World.grownBy_alloc w3 (.cells #[.int .i64 0, .int .i64 0, .string ⟨#[]⟩] 40) none)
  have G3 := Lib.hid (grownBy_trans G12.out gA3)
  have hD3 := Lib.hid (hD2.out.grown gA3)
  have hZ3 := Lib.hid (hZ2.out.grown gA3)
  have hS3 := Lib.hid (hS2.out.grown gA3)
  have HO3 := Lib.hid (HO.out.kept gA3)
  obtain ⟨d0, d1, d2⟩ := hD3.out.three
  obtain ⟨s0, s1, s2⟩ := hS3.out.three
  obtain ⟨⟨y0, y1, y2⟩, v0, v1, v2⟩ := dk_facts hZ3.out
  clear cr hg3 gA3
  go_wp2_with fail
  generalize w3.alloc (.cells #[.int .i64 0, .int .i64 0, .string ⟨#[]⟩] 40) = W3 at *
  go_region_with (first | (go_at_call 71; (with_reducible refine (ca _).mono ?_); rintro e wa ⟨rfl, ga⟩; have GA := Lib.hid (drew_grown ga); obtain ⟨s0a, s1a, s2a⟩ := (hS3.out.grown GA.out).three; clear ga) | (go_at_call 62; (with_reducible refine (cn _).mono ?_); rintro e wn ⟨rfl, gn⟩; have GN := Lib.hid (grownBy_trans GA.out gn); have HZn := Lib.hid (hZ3.out.grown GN.out); obtain ⟨s0n, s1n, s2n⟩ := (hS3.out.grown GN.out).three; obtain ⟨⟨y0, y1, y2⟩, v0, v1, v2⟩ := dk_facts HZn.out; have HO := Lib.hid (HO3.out.kept GN.out); clear gn))
  all_goals go_wp2_with fail
  all_goals
    have P : LinePost (((N, s), xs), Y) w (.returned (.tuple #[.agg #[.int .i64 N, .string (bs s), .slice a' xs.length c'], .string Y])) (((wn.setCell ⟨w.heap.size + 1, 0, none⟩ (.int .i64 N)).setCell ⟨w.heap.size + 1, 1, none⟩ (.string (bs s))).setCell ⟨w.heap.size + 1, 2, none⟩ (.slice a' xs.length c')) :=
      ⟨a', c', rfl, HO.out.put3 ⟨_, HZn.out⟩ _ _ _, HB.out, put3_grown _ (grownBy_trans G3.out GN.out) (by omega) _ _ _⟩
    exact bodyPost_ret (v := .tuple #[.agg #[.int .i64 N, .string (bs s), .slice a' xs.length c'], .string Y]) (resDkB (b := .string Y) rfl _ rfl rfl (HZn.out.put3 (.int .i64 N) (.string (bs s)) (.slice a' xs.length c'))) rfl P

set_option maxRecDepth 8000 in
set_option maxHeartbeats 2000000 in
theorem sdl_q8 (N : Nat) (s : List UInt8) (xs : List Ld) (a : Option Addr) (cap : Nat) (w : World) (hN : NowOk N s) (h : LdsAt w a xs) (h0 : a = none → cap = 0) (hd : dkB (((N : Int), s), xs) = true) :
    Calls Tryz.prog 21 #[.agg #[.int .i64 N, .string (bs s), .slice a xs.length cap], .string (bs [114, 111, 119])] w (LinePost (((N, s), xs), ansQ N s 8) w) := by
  have g2 : w.grownBy ((w.alloc (.cells #[.int .i64 N, .string (bs s), .slice a xs.length cap] 32)).alloc (.cells #[.int .i64 0, .string ⟨#[]⟩, .slice none 0 0] 32)) none := grownBy_trans (World.grownBy_alloc w _ none) (World.grownBy_alloc _ _ none)
  have hZ := Lib.hid (CellsAt.second w (.cells #[.int .i64 N, .string (bs s), .slice a xs.length cap] 32) #[.int .i64 0, .string ⟨#[]⟩, .slice none 0 0] 32)
  have hD := Lib.hid (CellsAt.first w (.cells #[.int .i64 0, .string ⟨#[]⟩, .slice none 0 0] 32) #[.int .i64 N, .string (bs s), .slice a xs.length cap] 32)
  have ck := sdesk_is ((N, s), xs) a cap _ (h.grown g2)
  rw [hd] at ck
  unfold dkV at ck
  have cr := fun w => srd_v [114, 111, 119] _ (rdV_none (by decide)) w (by decide)
  unfold ddV nilDd at cr
  rw [show bs ([] : List UInt8) = ⟨#[]⟩ from rfl] at cr
  have hx8 : xs.length ≤ 9 := by have := (dkB_of hd).2.2; change xs.length ≤ 8 at this; omega
  have cc : ∀ W, LdsAt W a xs → Calls Tryz.prog 60 #[.agg #[.int .i64 N, .string (bs s), .slice a xs.length cap]] W fun e w' => ∃ a' cap', e = .returned (.agg #[.int .i64 N, .string (bs s), .slice a' xs.length cap']) ∧ Own2 w' W.heap.size a' cap' xs ∧ W.grownBy w' none := fun W hW => scopy_any ((N, s), xs) a cap W hW h0 hx8
  have HX := Lib.hid (h.grown g2)
  have G2 := Lib.hid g2
  have HN := Lib.hid hN
  obtain ⟨U, hU⟩ : ∃ U, U = bs [114, 111, 119] := ⟨_, rfl⟩
  rw [← hU] at cr ⊢
  have u0 : (U.toList == [115, 116, 101, 112, 115]) = false := by rw [hU, toL_bs]; decide
  have u1 : (U.toList == [116, 101, 120, 116]) = false := by rw [hU, toL_bs]; decide
  have u2 : (U.toList == [97, 108, 119, 97, 121, 115]) = false := by rw [hU, toL_bs]; decide
  have u3 : (U.toList == [108, 101, 97, 115, 116]) = false := by rw [hU, toL_bs]; decide
  have u4 : (U.toList == [97, 103, 97, 105, 110, 115, 116]) = false := by rw [hU, toL_bs]; decide
  have u5 : (U.toList == [99, 104, 97, 105, 110, 115]) = false := by rw [hU, toL_bs]; decide
  have u6 : (U.toList == [108, 101, 116, 116, 101, 114, 115]) = false := by rw [hU, toL_bs]; decide
  have u7 : (U.toList == [109, 111, 118, 101, 115]) = false := by rw [hU, toL_bs]; decide
  have u8 : (U.toList == [114, 111, 119]) = true := by rw [hU, toL_bs]; decide
  have hcx := saidL_99 hN
  have ca : ∀ W, Calls Tryz.prog 72 #[.int .i64 N, .string (bs s)] W fun e w' => ∃ a cap, e = .returned (.slice a (saidL N s).length cap) ∧ OwnI w' W.heap.size a cap (saidL N s) ∧ W.grownBy w' none := fun W => ssaid_any N (bs s) W
  have cn : ∀ W ai ci, IntsAt W ai (saidL N s) → Calls Tryz.prog 68 #[.slice ai (saidL N s).length ci] W fun e w' => e = .returned (.string (ansQ N s 8)) ∧ W.grownBy w' none := fun W ai ci hi => srowt_any (saidL N s) hcx.1 (by have := hcx.2; omega) ai ci W hi
  have HXL : Hid ((saidL N s).length ≤ maxLen) := Lib.hid (by have := hcx.2; unfold maxLen; omega)
  clear hcx
  generalize saidL N s = B at ca cn HXL
  obtain ⟨Y, hY⟩ : ∃ Y, Y = ansQ N s 8 := ⟨_, rfl⟩
  rw [← hY] at cn ⊢
  clear hY
  clear h g2 hd hx8 hU
  go_enter Tryz.func21, Tryz.ntmps21
  go_wp2_with fail
  generalize (w.alloc (.cells #[.int .i64 N, .string (bs s), .slice a xs.length cap] 32)).alloc (.cells #[.int .i64 0, .string ⟨#[]⟩, .slice none 0 0] 32) = W at *
  refine ck.mono ?_
  rintro e w1 ⟨rfl, hg1⟩
  have G1 := Lib.hid (grownBy_trans G2.out hg1)
  have HX1 := Lib.hid (HX.out.grown hg1)
  have hD1 := Lib.hid (hD.out.grown hg1)
  have hZ1 := Lib.hid (hZ.out.grown hg1)
  obtain ⟨d0, d1, d2⟩ := hD1.out.three
  clear ck hg1
  go_wp2_with fail
  refine (cc _ HX1.out).mono ?_
  rintro e w2 ⟨a', c', rfl, ho, hg2⟩
  have gA := World.grownBy_alloc w2 (.cells #[.int .i64 N, .string (bs s), .slice a' xs.length c'] 32) none
  have g12 := grownBy_trans hg2 gA
  have G12 := Lib.hid (grownBy_trans G1.out g12)
  have hD2 := Lib.hid (hD1.out.grown g12)
  have hZ2 := Lib.hid (hZ1.out.grown g12)
  have hS2 := Lib.hid (CellsAt.new w2 #[.int .i64 N, .string (bs s), .slice a' xs.length c'] 32)
  have HO := Lib.hid ((ho.kept gA).l.mono G1.out.size)
  have HB := Lib.hid ho.bare
  have hb2 : Hid (w.heap.size + 2 ≤ w2.heap.size) := Lib.hid (by
    have := hZ1.out.lt; have := hg2.size; omega)
  clear cc ho hg2 gA g12 d0 d1 d2
  go_wp2_with fail
  generalize w2.alloc (.cells #[.int .i64 N, .string (bs s), .slice a' xs.length c'] 32) = W2 at *
  generalize w2.heap.size = sb at *
  refine (cr _).mono ?_
  rintro e w3 ⟨rfl, hg3⟩
  have gA3 := grownBy_trans hg3 (World.grownBy_alloc w3 (.cells #[.int .i64 0, .int .i64 0, .string ⟨#[]⟩] 40) none)
  have G3 := Lib.hid (grownBy_trans G12.out gA3)
  have hD3 := Lib.hid (hD2.out.grown gA3)
  have hZ3 := Lib.hid (hZ2.out.grown gA3)
  have hS3 := Lib.hid (hS2.out.grown gA3)
  have HO3 := Lib.hid (HO.out.kept gA3)
  obtain ⟨d0, d1, d2⟩ := hD3.out.three
  obtain ⟨s0, s1, s2⟩ := hS3.out.three
  obtain ⟨⟨y0, y1, y2⟩, v0, v1, v2⟩ := dk_facts hZ3.out
  clear cr hg3 gA3
  go_wp2_with fail
  generalize w3.alloc (.cells #[.int .i64 0, .int .i64 0, .string ⟨#[]⟩] 40) = W3 at *
  go_region_with (first | (go_at_call 72; (with_reducible refine (ca _).mono ?_); rintro e wa ⟨ai, ci, rfl, hi, ga⟩; have GA := Lib.hid (drew_grown ga); obtain ⟨s0a, s1a, s2a⟩ := (hS3.out.grown GA.out).three; have HI := Lib.hid (hi.at HXL.out); clear hi; clear ga) | (go_at_call 68; (with_reducible refine (cn _ _ _ HI.out).mono ?_); rintro e wn ⟨rfl, gn⟩; have GN := Lib.hid (grownBy_trans GA.out gn); have HZn := Lib.hid (hZ3.out.grown GN.out); obtain ⟨s0n, s1n, s2n⟩ := (hS3.out.grown GN.out).three; obtain ⟨⟨y0, y1, y2⟩, v0, v1, v2⟩ := dk_facts HZn.out; have HO := Lib.hid (HO3.out.kept GN.out); clear gn))
  all_goals go_wp2_with fail
  all_goals
    have P : LinePost (((N, s), xs), Y) w (.returned (.tuple #[.agg #[.int .i64 N, .string (bs s), .slice a' xs.length c'], .string Y])) (((wn.setCell ⟨w.heap.size + 1, 0, none⟩ (.int .i64 N)).setCell ⟨w.heap.size + 1, 1, none⟩ (.string (bs s))).setCell ⟨w.heap.size + 1, 2, none⟩ (.slice a' xs.length c')) :=
      ⟨a', c', rfl, HO.out.put3 ⟨_, HZn.out⟩ _ _ _, HB.out, put3_grown _ (grownBy_trans G3.out GN.out) (by omega) _ _ _⟩
    exact bodyPost_ret (v := .tuple #[.agg #[.int .i64 N, .string (bs s), .slice a' xs.length c'], .string Y]) (resDkB (b := .string Y) rfl _ rfl rfl (HZn.out.put3 (.int .i64 N) (.string (bs s)) (.slice a' xs.length c'))) rfl P

end Go.Proofs.YtlnffpofbfigaaaGreatDoor

/-
  The model's DeskLine at the other lines: from, at, and what is no question.
-/
namespace Go.Proofs.YtlnffpofbfigaaaGreatDoor
open Go.RowKit

set_option maxRecDepth 8000 in
set_option maxHeartbeats 2000000 in
theorem sdl_c (N : Nat) (s : List UInt8) (xs : List Ld) (l : List UInt8) (hn : rdD l = none) (hq : l ∉ askW) (hl : l.length ≤ 2097152) (hc : (cutL 32 l).length ≠ 2 ∧ (cutL 32 l).length ≠ 4) (a : Option Addr) (cap : Nat) (w : World) (hN : NowOk N s) (h : LdsAt w a xs) (h0 : a = none → cap = 0) (hd : dkB (((N : Int), s), xs) = true) :
    Calls Tryz.prog 21 #[.agg #[.int .i64 N, .string (bs s), .slice a xs.length cap], .string (bs l)] w (LinePost (((N, s), xs), ansO N s l) w) := by
  have g2 : w.grownBy ((w.alloc (.cells #[.int .i64 N, .string (bs s), .slice a xs.length cap] 32)).alloc (.cells #[.int .i64 0, .string ⟨#[]⟩, .slice none 0 0] 32)) none := grownBy_trans (World.grownBy_alloc w _ none) (World.grownBy_alloc _ _ none)
  have hZ := Lib.hid (CellsAt.second w (.cells #[.int .i64 N, .string (bs s), .slice a xs.length cap] 32) #[.int .i64 0, .string ⟨#[]⟩, .slice none 0 0] 32)
  have hD := Lib.hid (CellsAt.first w (.cells #[.int .i64 0, .string ⟨#[]⟩, .slice none 0 0] 32) #[.int .i64 N, .string (bs s), .slice a xs.length cap] 32)
  have ck := sdesk_is ((N, s), xs) a cap _ (h.grown g2)
  rw [hd] at ck
  unfold dkV at ck
  have cr := fun w => srd_v l _ (rdV_none hn) w hl
  unfold ddV nilDd at cr
  rw [show bs ([] : List UInt8) = ⟨#[]⟩ from rfl] at cr
  have hx8 : xs.length ≤ 9 := by have := (dkB_of hd).2.2; change xs.length ≤ 8 at this; omega
  have cc : ∀ W, LdsAt W a xs → Calls Tryz.prog 60 #[.agg #[.int .i64 N, .string (bs s), .slice a xs.length cap]] W fun e w' => ∃ a' cap', e = .returned (.agg #[.int .i64 N, .string (bs s), .slice a' xs.length cap']) ∧ Own2 w' W.heap.size a' cap' xs ∧ W.grownBy w' none := fun W hW => scopy_any ((N, s), xs) a cap W hW h0 hx8
  have HX := Lib.hid (h.grown g2)
  have G2 := Lib.hid g2
  have HN := Lib.hid hN
  obtain ⟨U, hU⟩ : ∃ U, U = bs l := ⟨_, rfl⟩
  rw [← hU] at cr ⊢
  have u0 : (U.toList == [115, 116, 101, 112, 115]) = false := by rw [hU, toL_bs]; exact beq_false_of_ne fun e => hq (by rw [e]; decide)
  have u1 : (U.toList == [116, 101, 120, 116]) = false := by rw [hU, toL_bs]; exact beq_false_of_ne fun e => hq (by rw [e]; decide)
  have u2 : (U.toList == [97, 108, 119, 97, 121, 115]) = false := by rw [hU, toL_bs]; exact beq_false_of_ne fun e => hq (by rw [e]; decide)
  have u3 : (U.toList == [108, 101, 97, 115, 116]) = false := by rw [hU, toL_bs]; exact beq_false_of_ne fun e => hq (by rw [e]; decide)
  have u4 : (U.toList == [97, 103, 97, 105, 110, 115, 116]) = false := by rw [hU, toL_bs]; exact beq_false_of_ne fun e => hq (by rw [e]; decide)
  have u5 : (U.toList == [99, 104, 97, 105, 110, 115]) = false := by rw [hU, toL_bs]; exact beq_false_of_ne fun e => hq (by rw [e]; decide)
  have u6 : (U.toList == [108, 101, 116, 116, 101, 114, 115]) = false := by rw [hU, toL_bs]; exact beq_false_of_ne fun e => hq (by rw [e]; decide)
  have u7 : (U.toList == [109, 111, 118, 101, 115]) = false := by rw [hU, toL_bs]; exact beq_false_of_ne fun e => hq (by rw [e]; decide)
  have u8 : (U.toList == [114, 111, 119]) = false := by rw [hU, toL_bs]; exact beq_false_of_ne fun e => hq (by rw [e]; decide)
  rw [show ansO N s l = whatA from by
    unfold ansO
    split
    · rename_i e; rw [e] at hc; exact absurd rfl hc.1
    · rename_i e; rw [e] at hc; exact absurd rfl hc.2
    · rfl]
  unfold whatA
  have cs : ∀ W, Calls Tryz.prog 73 #[.string U, .int .u8 32] W (ScPost 32 l W) := fun W => by rw [hU]; exact sct_any l hl W
  unfold ScPost at cs
  have l2 : (((cutL 32 l).length : Int) == 2) = false := beq_false_of_ne (by have := hc.1; omega)
  have l4 : ¬ (((cutL 32 l).length : Int) = 4) := by have := hc.2; omega
  clear h g2 hd hx8 hU hq hn hl hc
  go_enter Tryz.func21, Tryz.ntmps21
  go_wp2_with fail
  generalize (w.alloc (.cells #[.int .i64 N, .string (bs s), .slice a xs.length cap] 32)).alloc (.cells #[.int .i64 0, .string ⟨#[]⟩, .slice none 0 0] 32) = W at *
  refine ck.mono ?_
  rintro e w1 ⟨rfl, hg1⟩
  have G1 := Lib.hid (grownBy_trans G2.out hg1)
  have HX1 := Lib.hid (HX.out.grown hg1)
  have hD1 := Lib.hid (hD.out.grown hg1)
  have hZ1 := Lib.hid (hZ.out.grown hg1)
  obtain ⟨d0, d1, d2⟩ := hD1.out.three
  clear ck hg1
  go_wp2_with fail
  refine (cc _ HX1.out).mono ?_
  rintro e w2 ⟨a', c', rfl, ho, hg2⟩
  have gA := World.grownBy_alloc w2 (.cells #[.int .i64 N, .string (bs s), .slice a' xs.length c'] 32) none
  have g12 := grownBy_trans hg2 gA
  have G12 := Lib.hid (grownBy_trans G1.out g12)
  have hD2 := Lib.hid (hD1.out.grown g12)
  have hZ2 := Lib.hid (hZ1.out.grown g12)
  have hS2 := Lib.hid (CellsAt.new w2 #[.int .i64 N, .string (bs s), .slice a' xs.length c'] 32)
  have HO := Lib.hid ((ho.kept gA).l.mono G1.out.size)
  have HB := Lib.hid ho.bare
  have hb2 : Hid (w.heap.size + 2 ≤ w2.heap.size) := Lib.hid (by
    have := hZ1.out.lt; have := hg2.size; omega)
  clear cc ho hg2 gA g12 d0 d1 d2
  go_wp2_with fail
  generalize w2.alloc (.cells #[.int .i64 N, .string (bs s), .slice a' xs.length c'] 32) = W2 at *
  generalize w2.heap.size = sb at *
  refine (cr _).mono ?_
  rintro e w3 ⟨rfl, hg3⟩
  have gA3 := grownBy_trans hg3 (World.grownBy_alloc w3 (.cells #[.int .i64 0, .int .i64 0, .string ⟨#[]⟩] 40) none)
  have G3 := Lib.hid (grownBy_trans G12.out gA3)
  have hD3 := Lib.hid (hD2.out.grown gA3)
  have hZ3 := Lib.hid (hZ2.out.grown gA3)
  have hS3 := Lib.hid (hS2.out.grown gA3)
  have HO3 := Lib.hid (HO.out.kept gA3)
  obtain ⟨d0, d1, d2⟩ := hD3.out.three
  obtain ⟨s0, s1, s2⟩ := hS3.out.three
  obtain ⟨⟨y0, y1, y2⟩, v0, v1, v2⟩ := dk_facts hZ3.out
  clear cr hg3 gA3
  go_wp2_with fail
  generalize w3.alloc (.cells #[.int .i64 0, .int .i64 0, .string ⟨#[]⟩] 40) = W3 at *
  refine (cs _).mono ?_
  rintro e w4 ⟨aw, cw, rfl, hT, hg4⟩
  clear hT
  have hZ4 := Lib.hid (hZ3.out.grown hg4)
  have hS4 := Lib.hid (hS3.out.grown hg4)
  have G4 := Lib.hid (grownBy_trans G3.out hg4)
  have HO4 := Lib.hid (HO3.out.kept hg4)
  obtain ⟨s0n, s1n, s2n⟩ := hS4.out.three
  obtain ⟨⟨y0n, y1n, y2n⟩, v0n, v1n, v2n⟩ := dk_facts hZ4.out
  clear cs hg4 hZ3 hS3 G3 HO3 s0 s1 s2 y0 y1 y2 v0 v1 v2
  generalize (cutL 32 l).length = L at *
  go_wp2_with fail
  have HZn := hZ4
  have HO := HO4
  have G3 := G4
  have GN : Hid (w4.grownBy w4 none) := Lib.hid (grownBy_refl _ _)
  have P : LinePost (((N, s), xs), ⟨#[119, 104, 97, 116]⟩) w (.returned (.tuple #[.agg #[.int .i64 N, .string (bs s), .slice a' xs.length c'], .string ⟨#[119, 104, 97, 116]⟩])) (((w4.setCell ⟨w.heap.size + 1, 0, none⟩ (.int .i64 N)).setCell ⟨w.heap.size + 1, 1, none⟩ (.string (bs s))).setCell ⟨w.heap.size + 1, 2, none⟩ (.slice a' xs.length c')) :=
    ⟨a', c', rfl, HO.out.put3 ⟨_, HZn.out⟩ _ _ _, HB.out, put3_grown _ (grownBy_trans G3.out GN.out) (by omega) _ _ _⟩
  exact bodyPost_ret (v := .tuple #[.agg #[.int .i64 N, .string (bs s), .slice a' xs.length c'], .string ⟨#[119, 104, 97, 116]⟩]) (resDkB (b := .string ⟨#[119, 104, 97, 116]⟩) rfl _ rfl rfl (HZn.out.put3 (.int .i64 N) (.string (bs s)) (.slice a' xs.length c'))) rfl P

set_option maxRecDepth 8000 in
set_option maxHeartbeats 2000000 in
theorem sdl_two (N : Nat) (s : List UInt8) (xs : List Ld) (l : List UInt8) (hn : rdD l = none) (hq : l ∉ askW) (hl : l.length ≤ 2097152) (f x : List UInt8) (hf : f ≠ [102, 114, 111, 109]) (hc : cutL 32 l = [f, x]) (a : Option Addr) (cap : Nat) (w : World) (hN : NowOk N s) (h : LdsAt w a xs) (h0 : a = none → cap = 0) (hd : dkB (((N : Int), s), xs) = true) :
    Calls Tryz.prog 21 #[.agg #[.int .i64 N, .string (bs s), .slice a xs.length cap], .string (bs l)] w (LinePost (((N, s), xs), ansO N s l) w) := by
  have g2 : w.grownBy ((w.alloc (.cells #[.int .i64 N, .string (bs s), .slice a xs.length cap] 32)).alloc (.cells #[.int .i64 0, .string ⟨#[]⟩, .slice none 0 0] 32)) none := grownBy_trans (World.grownBy_alloc w _ none) (World.grownBy_alloc _ _ none)
  have hZ := Lib.hid (CellsAt.second w (.cells #[.int .i64 N, .string (bs s), .slice a xs.length cap] 32) #[.int .i64 0, .string ⟨#[]⟩, .slice none 0 0] 32)
  have hD := Lib.hid (CellsAt.first w (.cells #[.int .i64 0, .string ⟨#[]⟩, .slice none 0 0] 32) #[.int .i64 N, .string (bs s), .slice a xs.length cap] 32)
  have ck := sdesk_is ((N, s), xs) a cap _ (h.grown g2)
  rw [hd] at ck
  unfold dkV at ck
  have cr := fun w => srd_v l _ (rdV_none hn) w hl
  unfold ddV nilDd at cr
  rw [show bs ([] : List UInt8) = ⟨#[]⟩ from rfl] at cr
  have hx8 : xs.length ≤ 9 := by have := (dkB_of hd).2.2; change xs.length ≤ 8 at this; omega
  have cc : ∀ W, LdsAt W a xs → Calls Tryz.prog 60 #[.agg #[.int .i64 N, .string (bs s), .slice a xs.length cap]] W fun e w' => ∃ a' cap', e = .returned (.agg #[.int .i64 N, .string (bs s), .slice a' xs.length cap']) ∧ Own2 w' W.heap.size a' cap' xs ∧ W.grownBy w' none := fun W hW => scopy_any ((N, s), xs) a cap W hW h0 hx8
  have HX := Lib.hid (h.grown g2)
  have G2 := Lib.hid g2
  have HN := Lib.hid hN
  obtain ⟨U, hU⟩ : ∃ U, U = bs l := ⟨_, rfl⟩
  rw [← hU] at cr ⊢
  have u0 : (U.toList == [115, 116, 101, 112, 115]) = false := by rw [hU, toL_bs]; exact beq_false_of_ne fun e => hq (by rw [e]; decide)
  have u1 : (U.toList == [116, 101, 120, 116]) = false := by rw [hU, toL_bs]; exact beq_false_of_ne fun e => hq (by rw [e]; decide)
  have u2 : (U.toList == [97, 108, 119, 97, 121, 115]) = false := by rw [hU, toL_bs]; exact beq_false_of_ne fun e => hq (by rw [e]; decide)
  have u3 : (U.toList == [108, 101, 97, 115, 116]) = false := by rw [hU, toL_bs]; exact beq_false_of_ne fun e => hq (by rw [e]; decide)
  have u4 : (U.toList == [97, 103, 97, 105, 110, 115, 116]) = false := by rw [hU, toL_bs]; exact beq_false_of_ne fun e => hq (by rw [e]; decide)
  have u5 : (U.toList == [99, 104, 97, 105, 110, 115]) = false := by rw [hU, toL_bs]; exact beq_false_of_ne fun e => hq (by rw [e]; decide)
  have u6 : (U.toList == [108, 101, 116, 116, 101, 114, 115]) = false := by rw [hU, toL_bs]; exact beq_false_of_ne fun e => hq (by rw [e]; decide)
  have u7 : (U.toList == [109, 111, 118, 101, 115]) = false := by rw [hU, toL_bs]; exact beq_false_of_ne fun e => hq (by rw [e]; decide)
  have u8 : (U.toList == [114, 111, 119]) = false := by rw [hU, toL_bs]; exact beq_false_of_ne fun e => hq (by rw [e]; decide)
  rw [show ansO N s l = whatA from by unfold ansO; rw [hc]; exact if_neg fun k => hf k.1]
  unfold whatA
  have cs : ∀ W, Calls Tryz.prog 73 #[.string U, .int .u8 32] W (ScPost 32 l W) := fun W => by rw [hU]; exact sct_any l hl W
  unfold ScPost at cs
  have l2 : (cutL 32 l).length = 2 := by rw [hc]; rfl
  rw [l2] at cs
  have uf : ((bs f).toList == [102, 114, 111, 109]) = false := by rw [toL_bs]; exact beq_false_of_ne hf
  clear h g2 hd hx8 hU hq hn hl l2 hf
  go_enter Tryz.func21, Tryz.ntmps21
  go_wp2_with fail
  generalize (w.alloc (.cells #[.int .i64 N, .string (bs s), .slice a xs.length cap] 32)).alloc (.cells #[.int .i64 0, .string ⟨#[]⟩, .slice none 0 0] 32) = W at *
  refine ck.mono ?_
  rintro e w1 ⟨rfl, hg1⟩
  have G1 := Lib.hid (grownBy_trans G2.out hg1)
  have HX1 := Lib.hid (HX.out.grown hg1)
  have hD1 := Lib.hid (hD.out.grown hg1)
  have hZ1 := Lib.hid (hZ.out.grown hg1)
  obtain ⟨d0, d1, d2⟩ := hD1.out.three
  clear ck hg1
  go_wp2_with fail
  refine (cc _ HX1.out).mono ?_
  rintro e w2 ⟨a', c', rfl, ho, hg2⟩
  have gA := World.grownBy_alloc w2 (.cells #[.int .i64 N, .string (bs s), .slice a' xs.length c'] 32) none
  have g12 := grownBy_trans hg2 gA
  have G12 := Lib.hid (grownBy_trans G1.out g12)
  have hD2 := Lib.hid (hD1.out.grown g12)
  have hZ2 := Lib.hid (hZ1.out.grown g12)
  have hS2 := Lib.hid (CellsAt.new w2 #[.int .i64 N, .string (bs s), .slice a' xs.length c'] 32)
  have HO := Lib.hid ((ho.kept gA).l.mono G1.out.size)
  have HB := Lib.hid ho.bare
  have hb2 : Hid (w.heap.size + 2 ≤ w2.heap.size) := Lib.hid (by
    have := hZ1.out.lt; have := hg2.size; omega)
  clear cc ho hg2 gA g12 d0 d1 d2
  go_wp2_with fail
  generalize w2.alloc (.cells #[.int .i64 N, .string (bs s), .slice a' xs.length c'] 32) = W2 at *
  generalize w2.heap.size = sb at *
  refine (cr _).mono ?_
  rintro e w3 ⟨rfl, hg3⟩
  have gA3 := grownBy_trans hg3 (World.grownBy_alloc w3 (.cells #[.int .i64 0, .int .i64 0, .string ⟨#[]⟩] 40) none)
  have G3 := Lib.hid (grownBy_trans G12.out gA3)
  have hD3 := Lib.hid (hD2.out.grown gA3)
  have hZ3 := Lib.hid (hZ2.out.grown gA3)
  have hS3 := Lib.hid (hS2.out.grown gA3)
  have HO3 := Lib.hid (HO.out.kept gA3)
  obtain ⟨d0, d1, d2⟩ := hD3.out.three
  obtain ⟨s0, s1, s2⟩ := hS3.out.three
  obtain ⟨⟨y0, y1, y2⟩, v0, v1, v2⟩ := dk_facts hZ3.out
  clear cr hg3 gA3
  go_wp2_with fail
  generalize w3.alloc (.cells #[.int .i64 0, .int .i64 0, .string ⟨#[]⟩] 40) = W3 at *
  refine (cs _).mono ?_
  rintro e w4 ⟨aw, cw, rfl, hT, hg4⟩
  obtain ⟨g0, rfl, hT⟩ := hT
  rw [hc] at hT
  have t0 := hT 0 (by simp)
  have t1 := hT 1 (by simp)
  change w4.cell? ⟨g0, 0, none⟩ = some (.string (bs f)) at t0
  change w4.cell? ⟨g0, 1, none⟩ = some (.string (bs x)) at t1
  clear hT
  have hZ4 := Lib.hid (hZ3.out.grown hg4)
  have hS4 := Lib.hid (hS3.out.grown hg4)
  have G4 := Lib.hid (grownBy_trans G3.out hg4)
  have HO4 := Lib.hid (HO3.out.kept hg4)
  obtain ⟨s0n, s1n, s2n⟩ := hS4.out.three
  obtain ⟨⟨y0n, y1n, y2n⟩, v0n, v1n, v2n⟩ := dk_facts hZ4.out
  clear cs hg4 hZ3 hS3 G3 HO3 s0 s1 s2 y0 y1 y2 v0 v1 v2
  generalize bs f = F at *
  generalize bs x = X at *
  clear hc
  go_wp2_with fail
  have HZn := hZ4
  have HO := HO4
  have G3 := G4
  have GN : Hid (w4.grownBy w4 none) := Lib.hid (grownBy_refl _ _)
  have P : LinePost (((N, s), xs), ⟨#[119, 104, 97, 116]⟩) w (.returned (.tuple #[.agg #[.int .i64 N, .string (bs s), .slice a' xs.length c'], .string ⟨#[119, 104, 97, 116]⟩])) (((w4.setCell ⟨w.heap.size + 1, 0, none⟩ (.int .i64 N)).setCell ⟨w.heap.size + 1, 1, none⟩ (.string (bs s))).setCell ⟨w.heap.size + 1, 2, none⟩ (.slice a' xs.length c')) :=
    ⟨a', c', rfl, HO.out.put3 ⟨_, HZn.out⟩ _ _ _, HB.out, put3_grown _ (grownBy_trans G3.out GN.out) (by omega) _ _ _⟩
  exact bodyPost_ret (v := .tuple #[.agg #[.int .i64 N, .string (bs s), .slice a' xs.length c'], .string ⟨#[119, 104, 97, 116]⟩]) (resDkB (b := .string ⟨#[119, 104, 97, 116]⟩) rfl _ rfl rfl (HZn.out.put3 (.int .i64 N) (.string (bs s)) (.slice a' xs.length c'))) rfl P

set_option maxRecDepth 8000 in
set_option maxHeartbeats 2000000 in
theorem sdl_nofrom (N : Nat) (s : List UInt8) (xs : List Ld) (l : List UInt8) (hn : rdD l = none) (hq : l ∉ askW) (hl : l.length ≤ 2097152) (f x : List UInt8) (hf : f = [102, 114, 111, 109]) (hx : isF x = false) (hc : cutL 32 l = [f, x]) (a : Option Addr) (cap : Nat) (w : World) (hN : NowOk N s) (h : LdsAt w a xs) (h0 : a = none → cap = 0) (hd : dkB (((N : Int), s), xs) = true) :
    Calls Tryz.prog 21 #[.agg #[.int .i64 N, .string (bs s), .slice a xs.length cap], .string (bs l)] w (LinePost (((N, s), xs), ansO N s l) w) := by
  have g2 : w.grownBy ((w.alloc (.cells #[.int .i64 N, .string (bs s), .slice a xs.length cap] 32)).alloc (.cells #[.int .i64 0, .string ⟨#[]⟩, .slice none 0 0] 32)) none := grownBy_trans (World.grownBy_alloc w _ none) (World.grownBy_alloc _ _ none)
  have hZ := Lib.hid (CellsAt.second w (.cells #[.int .i64 N, .string (bs s), .slice a xs.length cap] 32) #[.int .i64 0, .string ⟨#[]⟩, .slice none 0 0] 32)
  have hD := Lib.hid (CellsAt.first w (.cells #[.int .i64 0, .string ⟨#[]⟩, .slice none 0 0] 32) #[.int .i64 N, .string (bs s), .slice a xs.length cap] 32)
  have ck := sdesk_is ((N, s), xs) a cap _ (h.grown g2)
  rw [hd] at ck
  unfold dkV at ck
  have cr := fun w => srd_v l _ (rdV_none hn) w hl
  unfold ddV nilDd at cr
  rw [show bs ([] : List UInt8) = ⟨#[]⟩ from rfl] at cr
  have hx8 : xs.length ≤ 9 := by have := (dkB_of hd).2.2; change xs.length ≤ 8 at this; omega
  have cc : ∀ W, LdsAt W a xs → Calls Tryz.prog 60 #[.agg #[.int .i64 N, .string (bs s), .slice a xs.length cap]] W fun e w' => ∃ a' cap', e = .returned (.agg #[.int .i64 N, .string (bs s), .slice a' xs.length cap']) ∧ Own2 w' W.heap.size a' cap' xs ∧ W.grownBy w' none := fun W hW => scopy_any ((N, s), xs) a cap W hW h0 hx8
  have HX := Lib.hid (h.grown g2)
  have G2 := Lib.hid g2
  have HN := Lib.hid hN
  obtain ⟨U, hU⟩ : ∃ U, U = bs l := ⟨_, rfl⟩
  rw [← hU] at cr ⊢
  have u0 : (U.toList == [115, 116, 101, 112, 115]) = false := by rw [hU, toL_bs]; exact beq_false_of_ne fun e => hq (by rw [e]; decide)
  have u1 : (U.toList == [116, 101, 120, 116]) = false := by rw [hU, toL_bs]; exact beq_false_of_ne fun e => hq (by rw [e]; decide)
  have u2 : (U.toList == [97, 108, 119, 97, 121, 115]) = false := by rw [hU, toL_bs]; exact beq_false_of_ne fun e => hq (by rw [e]; decide)
  have u3 : (U.toList == [108, 101, 97, 115, 116]) = false := by rw [hU, toL_bs]; exact beq_false_of_ne fun e => hq (by rw [e]; decide)
  have u4 : (U.toList == [97, 103, 97, 105, 110, 115, 116]) = false := by rw [hU, toL_bs]; exact beq_false_of_ne fun e => hq (by rw [e]; decide)
  have u5 : (U.toList == [99, 104, 97, 105, 110, 115]) = false := by rw [hU, toL_bs]; exact beq_false_of_ne fun e => hq (by rw [e]; decide)
  have u6 : (U.toList == [108, 101, 116, 116, 101, 114, 115]) = false := by rw [hU, toL_bs]; exact beq_false_of_ne fun e => hq (by rw [e]; decide)
  have u7 : (U.toList == [109, 111, 118, 101, 115]) = false := by rw [hU, toL_bs]; exact beq_false_of_ne fun e => hq (by rw [e]; decide)
  have u8 : (U.toList == [114, 111, 119]) = false := by rw [hU, toL_bs]; exact beq_false_of_ne fun e => hq (by rw [e]; decide)
  rw [show ansO N s l = whatA from by unfold ansO; rw [hc]; exact if_neg fun k => by rw [hx] at k; exact absurd k.2 (by simp)]
  unfold whatA
  have cs : ∀ W, Calls Tryz.prog 73 #[.string U, .int .u8 32] W (ScPost 32 l W) := fun W => by rw [hU]; exact sct_any l hl W
  unfold ScPost at cs
  have l2 : (cutL 32 l).length = 2 := by rw [hc]; rfl
  rw [l2] at cs
  have uf : ((bs f).toList == [102, 114, 111, 109]) = true := by rw [toL_bs, hf]; rfl
  have cf : ∀ W, Calls Tryz.prog 74 #[.string (bs x)] W fun e w' => e = .returned (.bool false) ∧ W = w' := fun W => by rw [← hx]; exact sform_any (bs x) W
  clear h g2 hd hx8 hU hq hn hl l2 hf hx
  go_enter Tryz.func21, Tryz.ntmps21
  go_wp2_with fail
  generalize (w.alloc (.cells #[.int .i64 N, .string (bs s), .slice a xs.length cap] 32)).alloc (.cells #[.int .i64 0, .string ⟨#[]⟩, .slice none 0 0] 32) = W at *
  refine ck.mono ?_
  rintro e w1 ⟨rfl, hg1⟩
  have G1 := Lib.hid (grownBy_trans G2.out hg1)
  have HX1 := Lib.hid (HX.out.grown hg1)
  have hD1 := Lib.hid (hD.out.grown hg1)
  have hZ1 := Lib.hid (hZ.out.grown hg1)
  obtain ⟨d0, d1, d2⟩ := hD1.out.three
  clear ck hg1
  go_wp2_with fail
  refine (cc _ HX1.out).mono ?_
  rintro e w2 ⟨a', c', rfl, ho, hg2⟩
  have gA := World.grownBy_alloc w2 (.cells #[.int .i64 N, .string (bs s), .slice a' xs.length c'] 32) none
  have g12 := grownBy_trans hg2 gA
  have G12 := Lib.hid (grownBy_trans G1.out g12)
  have hD2 := Lib.hid (hD1.out.grown g12)
  have hZ2 := Lib.hid (hZ1.out.grown g12)
  have hS2 := Lib.hid (CellsAt.new w2 #[.int .i64 N, .string (bs s), .slice a' xs.length c'] 32)
  have HO := Lib.hid ((ho.kept gA).l.mono G1.out.size)
  have HB := Lib.hid ho.bare
  have hb2 : Hid (w.heap.size + 2 ≤ w2.heap.size) := Lib.hid (by
    have := hZ1.out.lt; have := hg2.size; omega)
  clear cc ho hg2 gA g12 d0 d1 d2
  go_wp2_with fail
  generalize w2.alloc (.cells #[.int .i64 N, .string (bs s), .slice a' xs.length c'] 32) = W2 at *
  generalize w2.heap.size = sb at *
  refine (cr _).mono ?_
  rintro e w3 ⟨rfl, hg3⟩
  have gA3 := grownBy_trans hg3 (World.grownBy_alloc w3 (.cells #[.int .i64 0, .int .i64 0, .string ⟨#[]⟩] 40) none)
  have G3 := Lib.hid (grownBy_trans G12.out gA3)
  have hD3 := Lib.hid (hD2.out.grown gA3)
  have hZ3 := Lib.hid (hZ2.out.grown gA3)
  have hS3 := Lib.hid (hS2.out.grown gA3)
  have HO3 := Lib.hid (HO.out.kept gA3)
  obtain ⟨d0, d1, d2⟩ := hD3.out.three
  obtain ⟨s0, s1, s2⟩ := hS3.out.three
  obtain ⟨⟨y0, y1, y2⟩, v0, v1, v2⟩ := dk_facts hZ3.out
  clear cr hg3 gA3
  go_wp2_with fail
  generalize w3.alloc (.cells #[.int .i64 0, .int .i64 0, .string ⟨#[]⟩] 40) = W3 at *
  refine (cs _).mono ?_
  rintro e w4 ⟨aw, cw, rfl, hT, hg4⟩
  obtain ⟨g0, rfl, hT⟩ := hT
  rw [hc] at hT
  have t0 := hT 0 (by simp)
  have t1 := hT 1 (by simp)
  change w4.cell? ⟨g0, 0, none⟩ = some (.string (bs f)) at t0
  change w4.cell? ⟨g0, 1, none⟩ = some (.string (bs x)) at t1
  clear hT
  have hZ4 := Lib.hid (hZ3.out.grown hg4)
  have hS4 := Lib.hid (hS3.out.grown hg4)
  have G4 := Lib.hid (grownBy_trans G3.out hg4)
  have HO4 := Lib.hid (HO3.out.kept hg4)
  obtain ⟨s0n, s1n, s2n⟩ := hS4.out.three
  obtain ⟨⟨y0n, y1n, y2n⟩, v0n, v1n, v2n⟩ := dk_facts hZ4.out
  clear cs hg4 hZ3 hS3 G3 HO3 s0 s1 s2 y0 y1 y2 v0 v1 v2
  generalize bs f = F at *
  generalize bs x = X at *
  clear hc
  go_wp2_with (first | (go_at_call 74; (with_reducible refine (cf _).mono ?_); rintro e wf ⟨rfl, rfl⟩))
  have HZn := hZ4
  have HO := HO4
  have G3 := G4
  have GN : Hid (w4.grownBy w4 none) := Lib.hid (grownBy_refl _ _)
  have P : LinePost (((N, s), xs), ⟨#[119, 104, 97, 116]⟩) w (.returned (.tuple #[.agg #[.int .i64 N, .string (bs s), .slice a' xs.length c'], .string ⟨#[119, 104, 97, 116]⟩])) (((w4.setCell ⟨w.heap.size + 1, 0, none⟩ (.int .i64 N)).setCell ⟨w.heap.size + 1, 1, none⟩ (.string (bs s))).setCell ⟨w.heap.size + 1, 2, none⟩ (.slice a' xs.length c')) :=
    ⟨a', c', rfl, HO.out.put3 ⟨_, HZn.out⟩ _ _ _, HB.out, put3_grown _ (grownBy_trans G3.out GN.out) (by omega) _ _ _⟩
  exact bodyPost_ret (v := .tuple #[.agg #[.int .i64 N, .string (bs s), .slice a' xs.length c'], .string ⟨#[119, 104, 97, 116]⟩]) (resDkB (b := .string ⟨#[119, 104, 97, 116]⟩) rfl _ rfl rfl (HZn.out.put3 (.int .i64 N) (.string (bs s)) (.slice a' xs.length c'))) rfl P
theorem strs1 (w : World) (X : ByteArray) : StrsAt (w.alloc (.cells #[.string X] 9)) (some ⟨w.heap.size, 0, none⟩) [X] :=
  ⟨by unfold maxLen; simp, .inr ⟨w.heap.size, 0, rfl, by show _ < (w.heap.push _).size; rw [Array.size_push]; omega, fun i hi => by
    obtain rfl : i = 0 := by simpa using hi
    exact (CellsAt.new w #[.string X] 9).cell rfl⟩⟩

set_option maxRecDepth 8000 in
set_option maxHeartbeats 2000000 in
theorem sdl_from (N : Nat) (s : List UInt8) (xs : List Ld) (l : List UInt8) (hn : rdD l = none) (hq : l ∉ askW) (hl : l.length ≤ 2097152) (f x : List UInt8) (hf : f = [102, 114, 111, 109]) (hx : isF x = true) (hc : cutL 32 l = [f, x]) (a : Option Addr) (cap : Nat) (w : World) (hN : NowOk N s) (h : LdsAt w a xs) (h0 : a = none → cap = 0) (hd : dkB (((N : Int), s), xs) = true) :
    Calls Tryz.prog 21 #[.agg #[.int .i64 N, .string (bs s), .slice a xs.length cap], .string (bs l)] w (LinePost (((N, s), xs), ansO N s l) w) := by
  have g2 : w.grownBy ((w.alloc (.cells #[.int .i64 N, .string (bs s), .slice a xs.length cap] 32)).alloc (.cells #[.int .i64 0, .string ⟨#[]⟩, .slice none 0 0] 32)) none := grownBy_trans (World.grownBy_alloc w _ none) (World.grownBy_alloc _ _ none)
  have hZ := Lib.hid (CellsAt.second w (.cells #[.int .i64 N, .string (bs s), .slice a xs.length cap] 32) #[.int .i64 0, .string ⟨#[]⟩, .slice none 0 0] 32)
  have hD := Lib.hid (CellsAt.first w (.cells #[.int .i64 0, .string ⟨#[]⟩, .slice none 0 0] 32) #[.int .i64 N, .string (bs s), .slice a xs.length cap] 32)
  have ck := sdesk_is ((N, s), xs) a cap _ (h.grown g2)
  rw [hd] at ck
  unfold dkV at ck
  have cr := fun w => srd_v l _ (rdV_none hn) w hl
  unfold ddV nilDd at cr
  rw [show bs ([] : List UInt8) = ⟨#[]⟩ from rfl] at cr
  have hx8 : xs.length ≤ 9 := by have := (dkB_of hd).2.2; change xs.length ≤ 8 at this; omega
  have cc : ∀ W, LdsAt W a xs → Calls Tryz.prog 60 #[.agg #[.int .i64 N, .string (bs s), .slice a xs.length cap]] W fun e w' => ∃ a' cap', e = .returned (.agg #[.int .i64 N, .string (bs s), .slice a' xs.length cap']) ∧ Own2 w' W.heap.size a' cap' xs ∧ W.grownBy w' none := fun W hW => scopy_any ((N, s), xs) a cap W hW h0 hx8
  have HX := Lib.hid (h.grown g2)
  have G2 := Lib.hid g2
  have HN := Lib.hid hN
  obtain ⟨U, hU⟩ : ∃ U, U = bs l := ⟨_, rfl⟩
  rw [← hU] at cr ⊢
  have u0 : (U.toList == [115, 116, 101, 112, 115]) = false := by rw [hU, toL_bs]; exact beq_false_of_ne fun e => hq (by rw [e]; decide)
  have u1 : (U.toList == [116, 101, 120, 116]) = false := by rw [hU, toL_bs]; exact beq_false_of_ne fun e => hq (by rw [e]; decide)
  have u2 : (U.toList == [97, 108, 119, 97, 121, 115]) = false := by rw [hU, toL_bs]; exact beq_false_of_ne fun e => hq (by rw [e]; decide)
  have u3 : (U.toList == [108, 101, 97, 115, 116]) = false := by rw [hU, toL_bs]; exact beq_false_of_ne fun e => hq (by rw [e]; decide)
  have u4 : (U.toList == [97, 103, 97, 105, 110, 115, 116]) = false := by rw [hU, toL_bs]; exact beq_false_of_ne fun e => hq (by rw [e]; decide)
  have u5 : (U.toList == [99, 104, 97, 105, 110, 115]) = false := by rw [hU, toL_bs]; exact beq_false_of_ne fun e => hq (by rw [e]; decide)
  have u6 : (U.toList == [108, 101, 116, 116, 101, 114, 115]) = false := by rw [hU, toL_bs]; exact beq_false_of_ne fun e => hq (by rw [e]; decide)
  have u7 : (U.toList == [109, 111, 118, 101, 115]) = false := by rw [hU, toL_bs]; exact beq_false_of_ne fun e => hq (by rw [e]; decide)
  have u8 : (U.toList == [114, 111, 119]) = false := by rw [hU, toL_bs]; exact beq_false_of_ne fun e => hq (by rw [e]; decide)
  rw [show ansO N s l = yesA (folI N [x] s) from by unfold ansO; rw [hc]; exact if_pos ⟨hf, hx⟩]
  have cs : ∀ W, Calls Tryz.prog 73 #[.string U, .int .u8 32] W (ScPost 32 l W) := fun W => by rw [hU]; exact sct_any l hl W
  unfold ScPost at cs
  have l2 : (cutL 32 l).length = 2 := by rw [hc]; rfl
  rw [l2] at cs
  have uf : ((bs f).toList == [102, 114, 111, 109]) = true := by rw [toL_bs, hf]; rfl
  have co : ∀ W, Calls Tryz.prog 74 #[.string (bs x)] W fun e w' => e = .returned (.bool true) ∧ W = w' := fun W => by rw [← hx]; exact sform_any (bs x) W
  have cf : ∀ W ai, StrsAt W ai [bs x] → Calls Tryz.prog 75 #[.int .i64 N, .slice ai 1 1, .string (bs s)] W fun e w' => e = .returned (.bool (folI N [x] s)) ∧ W.grownBy w' none := fun W ai hi => sff_any N ai 1 [bs x] (bs s) W hi
  have cy := fun W => syes_any (folI N [x] s) W
  generalize folI N [x] s = B at *
  clear h g2 hd hx8 hU hq hn hl l2 hf hx
  go_enter Tryz.func21, Tryz.ntmps21
  go_wp2_with fail
  generalize (w.alloc (.cells #[.int .i64 N, .string (bs s), .slice a xs.length cap] 32)).alloc (.cells #[.int .i64 0, .string ⟨#[]⟩, .slice none 0 0] 32) = W at *
  refine ck.mono ?_
  rintro e w1 ⟨rfl, hg1⟩
  have G1 := Lib.hid (grownBy_trans G2.out hg1)
  have HX1 := Lib.hid (HX.out.grown hg1)
  have hD1 := Lib.hid (hD.out.grown hg1)
  have hZ1 := Lib.hid (hZ.out.grown hg1)
  obtain ⟨d0, d1, d2⟩ := hD1.out.three
  clear ck hg1
  go_wp2_with fail
  refine (cc _ HX1.out).mono ?_
  rintro e w2 ⟨a', c', rfl, ho, hg2⟩
  have gA := World.grownBy_alloc w2 (.cells #[.int .i64 N, .string (bs s), .slice a' xs.length c'] 32) none
  have g12 := grownBy_trans hg2 gA
  have G12 := Lib.hid (grownBy_trans G1.out g12)
  have hD2 := Lib.hid (hD1.out.grown g12)
  have hZ2 := Lib.hid (hZ1.out.grown g12)
  have hS2 := Lib.hid (CellsAt.new w2 #[.int .i64 N, .string (bs s), .slice a' xs.length c'] 32)
  have HO := Lib.hid ((ho.kept gA).l.mono G1.out.size)
  have HB := Lib.hid ho.bare
  have hb2 : Hid (w.heap.size + 2 ≤ w2.heap.size) := Lib.hid (by
    have := hZ1.out.lt; have := hg2.size; omega)
  clear cc ho hg2 gA g12 d0 d1 d2
  go_wp2_with fail
  generalize w2.alloc (.cells #[.int .i64 N, .string (bs s), .slice a' xs.length c'] 32) = W2 at *
  generalize w2.heap.size = sb at *
  refine (cr _).mono ?_
  rintro e w3 ⟨rfl, hg3⟩
  have gA3 := grownBy_trans hg3 (World.grownBy_alloc w3 (.cells #[.int .i64 0, .int .i64 0, .string ⟨#[]⟩] 40) none)
  have G3 := Lib.hid (grownBy_trans G12.out gA3)
  have hD3 := Lib.hid (hD2.out.grown gA3)
  have hZ3 := Lib.hid (hZ2.out.grown gA3)
  have hS3 := Lib.hid (hS2.out.grown gA3)
  have HO3 := Lib.hid (HO.out.kept gA3)
  obtain ⟨d0, d1, d2⟩ := hD3.out.three
  obtain ⟨s0, s1, s2⟩ := hS3.out.three
  obtain ⟨⟨y0, y1, y2⟩, v0, v1, v2⟩ := dk_facts hZ3.out
  clear cr hg3 gA3
  go_wp2_with fail
  generalize w3.alloc (.cells #[.int .i64 0, .int .i64 0, .string ⟨#[]⟩] 40) = W3 at *
  refine (cs _).mono ?_
  rintro e w4 ⟨aw, cw, rfl, hT, hg4⟩
  obtain ⟨g0, rfl, hT⟩ := hT
  rw [hc] at hT
  have t0 := hT 0 (by simp)
  have t1 := hT 1 (by simp)
  change w4.cell? ⟨g0, 0, none⟩ = some (.string (bs f)) at t0
  change w4.cell? ⟨g0, 1, none⟩ = some (.string (bs x)) at t1
  clear hT
  have hZ4 := Lib.hid (hZ3.out.grown hg4)
  have hS4 := Lib.hid (hS3.out.grown hg4)
  have G4 := Lib.hid (grownBy_trans G3.out hg4)
  have HO4 := Lib.hid (HO3.out.kept hg4)
  obtain ⟨s0n, s1n, s2n⟩ := hS4.out.three
  obtain ⟨⟨y0n, y1n, y2n⟩, v0n, v1n, v2n⟩ := dk_facts hZ4.out
  clear cs hg4 hZ3 hS3 G3 HO3 s0 s1 s2 y0 y1 y2 v0 v1 v2
  have m0 : ∀ o, (w4.alloc o).cell? ⟨sb, 0, none⟩ = some (.int .i64 N) := fun o => (hS4.out.grown (World.grownBy_alloc w4 o none)).three.1
  have m1 : ∀ o, (w4.alloc o).cell? ⟨sb, 1, none⟩ = some (.string (bs s)) := fun o => (hS4.out.grown (World.grownBy_alloc w4 o none)).three.2.1
  have m2 : ∀ o, (w4.alloc o).cell? ⟨sb, 2, none⟩ = some (.slice a' xs.length c') := fun o => (hS4.out.grown (World.grownBy_alloc w4 o none)).three.2.2
  have X0 := t1
  generalize bs f = F at *
  generalize bs x = X at *
  clear hc X0
  go_wp2_with (first | (go_at_call 74; (with_reducible refine (co _).mono ?_); rintro e wf ⟨rfl, rfl⟩))
  have G3 := G4
  go_region_with (first | (go_at_call 75; (first | (with_reducible refine (cf _ _ ((strs1 w4 X).grown (grownBy_drew (grownBy_refl _ _)))).mono ?_) | (with_reducible refine (cf _ _ (strs1 w4.drew X)).mono ?_)); rintro e wn ⟨rfl, gn⟩; have GN := Lib.hid (show w4.grownBy wn none by first | exact grownBy_trans (World.grownBy_alloc w4 _ none) (drew_grown gn) | exact drew_grown (grownBy_trans (World.grownBy_alloc _ _ none) gn)); have HZn := Lib.hid (hZ4.out.grown GN.out); obtain ⟨s0n, s1n, s2n⟩ := (hS4.out.grown GN.out).three; obtain ⟨⟨y0, y1, y2⟩, v0, v1, v2⟩ := dk_facts HZn.out; have HO := Lib.hid (HO4.out.kept GN.out); clear gn) | (go_at_call 63; (with_reducible refine (cy _).mono ?_); rintro e _ ⟨rfl, rfl⟩))
  all_goals go_wp2_with fail
  all_goals
    have P : LinePost (((N, s), xs), (yesA B)) w (.returned (.tuple #[.agg #[.int .i64 N, .string (bs s), .slice a' xs.length c'], .string (yesA B)])) (((wn.setCell ⟨w.heap.size + 1, 0, none⟩ (.int .i64 N)).setCell ⟨w.heap.size + 1, 1, none⟩ (.string (bs s))).setCell ⟨w.heap.size + 1, 2, none⟩ (.slice a' xs.length c')) :=
      ⟨a', c', rfl, HO.out.put3 ⟨_, HZn.out⟩ _ _ _, HB.out, put3_grown _ (grownBy_trans G3.out GN.out) (by omega) _ _ _⟩
    exact bodyPost_ret (v := .tuple #[.agg #[.int .i64 N, .string (bs s), .slice a' xs.length c'], .string (yesA B)]) (resDkB (b := .string (yesA B)) rfl _ rfl rfl (HZn.out.put3 (.int .i64 N) (.string (bs s)) (.slice a' xs.length c'))) rfl P

set_option maxRecDepth 8000 in
set_option maxHeartbeats 2000000 in
theorem sdl_four (N : Nat) (s : List UInt8) (xs : List Ld) (l : List UInt8) (hn : rdD l = none) (hq : l ∉ askW) (hl : l.length ≤ 2097152) (p x y z : List UInt8) (hp : p ≠ [97, 116]) (hc : cutL 32 l = [p, x, y, z]) (a : Option Addr) (cap : Nat) (w : World) (hN : NowOk N s) (h : LdsAt w a xs) (h0 : a = none → cap = 0) (hd : dkB (((N : Int), s), xs) = true) :
    Calls Tryz.prog 21 #[.agg #[.int .i64 N, .string (bs s), .slice a xs.length cap], .string (bs l)] w (LinePost (((N, s), xs), ansO N s l) w) := by
  have g2 : w.grownBy ((w.alloc (.cells #[.int .i64 N, .string (bs s), .slice a xs.length cap] 32)).alloc (.cells #[.int .i64 0, .string ⟨#[]⟩, .slice none 0 0] 32)) none := grownBy_trans (World.grownBy_alloc w _ none) (World.grownBy_alloc _ _ none)
  have hZ := Lib.hid (CellsAt.second w (.cells #[.int .i64 N, .string (bs s), .slice a xs.length cap] 32) #[.int .i64 0, .string ⟨#[]⟩, .slice none 0 0] 32)
  have hD := Lib.hid (CellsAt.first w (.cells #[.int .i64 0, .string ⟨#[]⟩, .slice none 0 0] 32) #[.int .i64 N, .string (bs s), .slice a xs.length cap] 32)
  have ck := sdesk_is ((N, s), xs) a cap _ (h.grown g2)
  rw [hd] at ck
  unfold dkV at ck
  have cr := fun w => srd_v l _ (rdV_none hn) w hl
  unfold ddV nilDd at cr
  rw [show bs ([] : List UInt8) = ⟨#[]⟩ from rfl] at cr
  have hx8 : xs.length ≤ 9 := by have := (dkB_of hd).2.2; change xs.length ≤ 8 at this; omega
  have cc : ∀ W, LdsAt W a xs → Calls Tryz.prog 60 #[.agg #[.int .i64 N, .string (bs s), .slice a xs.length cap]] W fun e w' => ∃ a' cap', e = .returned (.agg #[.int .i64 N, .string (bs s), .slice a' xs.length cap']) ∧ Own2 w' W.heap.size a' cap' xs ∧ W.grownBy w' none := fun W hW => scopy_any ((N, s), xs) a cap W hW h0 hx8
  have HX := Lib.hid (h.grown g2)
  have G2 := Lib.hid g2
  have HN := Lib.hid hN
  obtain ⟨U, hU⟩ : ∃ U, U = bs l := ⟨_, rfl⟩
  rw [← hU] at cr ⊢
  have u0 : (U.toList == [115, 116, 101, 112, 115]) = false := by rw [hU, toL_bs]; exact beq_false_of_ne fun e => hq (by rw [e]; decide)
  have u1 : (U.toList == [116, 101, 120, 116]) = false := by rw [hU, toL_bs]; exact beq_false_of_ne fun e => hq (by rw [e]; decide)
  have u2 : (U.toList == [97, 108, 119, 97, 121, 115]) = false := by rw [hU, toL_bs]; exact beq_false_of_ne fun e => hq (by rw [e]; decide)
  have u3 : (U.toList == [108, 101, 97, 115, 116]) = false := by rw [hU, toL_bs]; exact beq_false_of_ne fun e => hq (by rw [e]; decide)
  have u4 : (U.toList == [97, 103, 97, 105, 110, 115, 116]) = false := by rw [hU, toL_bs]; exact beq_false_of_ne fun e => hq (by rw [e]; decide)
  have u5 : (U.toList == [99, 104, 97, 105, 110, 115]) = false := by rw [hU, toL_bs]; exact beq_false_of_ne fun e => hq (by rw [e]; decide)
  have u6 : (U.toList == [108, 101, 116, 116, 101, 114, 115]) = false := by rw [hU, toL_bs]; exact beq_false_of_ne fun e => hq (by rw [e]; decide)
  have u7 : (U.toList == [109, 111, 118, 101, 115]) = false := by rw [hU, toL_bs]; exact beq_false_of_ne fun e => hq (by rw [e]; decide)
  have u8 : (U.toList == [114, 111, 119]) = false := by rw [hU, toL_bs]; exact beq_false_of_ne fun e => hq (by rw [e]; decide)
  rw [show ansO N s l = whatA from by unfold ansO; rw [hc]; exact if_neg hp]
  unfold whatA
  have cs : ∀ W, Calls Tryz.prog 73 #[.string U, .int .u8 32] W (ScPost 32 l W) := fun W => by rw [hU]; exact sct_any l hl W
  unfold ScPost at cs
  have l4 : (cutL 32 l).length = 4 := by rw [hc]; rfl
  rw [l4] at cs
  have up : ((bs p).toList == [97, 116]) = false := by rw [toL_bs]; exact beq_false_of_ne hp
  clear h g2 hd hx8 hU hq hn hl l4 hp
  go_enter Tryz.func21, Tryz.ntmps21
  go_wp2_with fail
  generalize (w.alloc (.cells #[.int .i64 N, .string (bs s), .slice a xs.length cap] 32)).alloc (.cells #[.int .i64 0, .string ⟨#[]⟩, .slice none 0 0] 32) = W at *
  refine ck.mono ?_
  rintro e w1 ⟨rfl, hg1⟩
  have G1 := Lib.hid (grownBy_trans G2.out hg1)
  have HX1 := Lib.hid (HX.out.grown hg1)
  have hD1 := Lib.hid (hD.out.grown hg1)
  have hZ1 := Lib.hid (hZ.out.grown hg1)
  obtain ⟨d0, d1, d2⟩ := hD1.out.three
  clear ck hg1
  go_wp2_with fail
  refine (cc _ HX1.out).mono ?_
  rintro e w2 ⟨a', c', rfl, ho, hg2⟩
  have gA := World.grownBy_alloc w2 (.cells #[.int .i64 N, .string (bs s), .slice a' xs.length c'] 32) none
  have g12 := grownBy_trans hg2 gA
  have G12 := Lib.hid (grownBy_trans G1.out g12)
  have hD2 := Lib.hid (hD1.out.grown g12)
  have hZ2 := Lib.hid (hZ1.out.grown g12)
  have hS2 := Lib.hid (CellsAt.new w2 #[.int .i64 N, .string (bs s), .slice a' xs.length c'] 32)
  have HO := Lib.hid ((ho.kept gA).l.mono G1.out.size)
  have HB := Lib.hid ho.bare
  have hb2 : Hid (w.heap.size + 2 ≤ w2.heap.size) := Lib.hid (by
    have := hZ1.out.lt; have := hg2.size; omega)
  clear cc ho hg2 gA g12 d0 d1 d2
  go_wp2_with fail
  generalize w2.alloc (.cells #[.int .i64 N, .string (bs s), .slice a' xs.length c'] 32) = W2 at *
  generalize w2.heap.size = sb at *
  refine (cr _).mono ?_
  rintro e w3 ⟨rfl, hg3⟩
  have gA3 := grownBy_trans hg3 (World.grownBy_alloc w3 (.cells #[.int .i64 0, .int .i64 0, .string ⟨#[]⟩] 40) none)
  have G3 := Lib.hid (grownBy_trans G12.out gA3)
  have hD3 := Lib.hid (hD2.out.grown gA3)
  have hZ3 := Lib.hid (hZ2.out.grown gA3)
  have hS3 := Lib.hid (hS2.out.grown gA3)
  have HO3 := Lib.hid (HO.out.kept gA3)
  obtain ⟨d0, d1, d2⟩ := hD3.out.three
  obtain ⟨s0, s1, s2⟩ := hS3.out.three
  obtain ⟨⟨y0, y1, y2⟩, v0, v1, v2⟩ := dk_facts hZ3.out
  clear cr hg3 gA3
  go_wp2_with fail
  generalize w3.alloc (.cells #[.int .i64 0, .int .i64 0, .string ⟨#[]⟩] 40) = W3 at *
  refine (cs _).mono ?_
  rintro e w4 ⟨aw, cw, rfl, hT, hg4⟩
  obtain ⟨g0, rfl, hT⟩ := hT
  rw [hc] at hT
  have t0 := hT 0 (by simp)
  have t1 := hT 1 (by simp)
  have t2 := hT 2 (by simp)
  have t3 := hT 3 (by simp)
  change w4.cell? ⟨g0, 0, none⟩ = some (.string (bs p)) at t0
  change w4.cell? ⟨g0, 1, none⟩ = some (.string (bs x)) at t1
  change w4.cell? ⟨g0, 2, none⟩ = some (.string (bs y)) at t2
  change w4.cell? ⟨g0, 3, none⟩ = some (.string (bs z)) at t3
  clear hT
  have hZ4 := Lib.hid (hZ3.out.grown hg4)
  have hS4 := Lib.hid (hS3.out.grown hg4)
  have G4 := Lib.hid (grownBy_trans G3.out hg4)
  have HO4 := Lib.hid (HO3.out.kept hg4)
  obtain ⟨s0n, s1n, s2n⟩ := hS4.out.three
  obtain ⟨⟨y0n, y1n, y2n⟩, v0n, v1n, v2n⟩ := dk_facts hZ4.out
  clear cs hg4 hZ3 hS3 G3 HO3 s0 s1 s2 y0 y1 y2 v0 v1 v2
  generalize bs p = F at *
  generalize bs x = X at *
  generalize bs y = Y at *
  generalize bs z = Z at *
  clear hc
  go_wp2_with fail
  have HZn := hZ4
  have HO := HO4
  have G3 := G4
  have GN : Hid (w4.grownBy w4 none) := Lib.hid (grownBy_refl _ _)
  have P : LinePost (((N, s), xs), ⟨#[119, 104, 97, 116]⟩) w (.returned (.tuple #[.agg #[.int .i64 N, .string (bs s), .slice a' xs.length c'], .string ⟨#[119, 104, 97, 116]⟩])) (((w4.setCell ⟨w.heap.size + 1, 0, none⟩ (.int .i64 N)).setCell ⟨w.heap.size + 1, 1, none⟩ (.string (bs s))).setCell ⟨w.heap.size + 1, 2, none⟩ (.slice a' xs.length c')) :=
    ⟨a', c', rfl, HO.out.put3 ⟨_, HZn.out⟩ _ _ _, HB.out, put3_grown _ (grownBy_trans G3.out GN.out) (by omega) _ _ _⟩
  exact bodyPost_ret (v := .tuple #[.agg #[.int .i64 N, .string (bs s), .slice a' xs.length c'], .string ⟨#[119, 104, 97, 116]⟩]) (resDkB (b := .string ⟨#[119, 104, 97, 116]⟩) rfl _ rfl rfl (HZn.out.put3 (.int .i64 N) (.string (bs s)) (.slice a' xs.length c'))) rfl P
theorem quiet_of {f : Nat} {args : Array Value} {v : Value} {w : World} {m : Nat} (h : Calls Tryz.prog f args (w.drewN m) fun e w' => e = .returned v ∧ w.drewN m = w') : Calls Tryz.prog f args (w.drewN m) fun e w'' => e = .returned v ∧ ∃ m, w'' = w.drewN m := Calls.quiet_of_same (h.mono fun _ _ p => ⟨p.1, p.2.symm⟩)
theorem cutG_len (c : UInt8) : ∀ (a b t : List UInt8), t ∈ cutG c a b → t.length ≤ a.length + b.length
  | a, [], t, h => by simp [cutG] at h; subst h; simp
  | a, d :: b, t, h => by
    unfold cutG at h
    split at h
    · rcases List.mem_cons.1 h with rfl | h
      · simp
      · have := cutG_len c [] b t h; simp at this ⊢; omega
    · have := cutG_len c (a ++ [d]) b t h; simp at this ⊢; omega
theorem cutw_len {l t : List UInt8} {L : List (List UInt8)} (h : cutL 32 l = L) (ht : t ∈ L) : t.length ≤ l.length := by
  subst h
  have := cutG_len 32 [] l t ht
  simpa using this

set_option maxRecDepth 8000 in
set_option maxHeartbeats 2000000 in
theorem sdl_at (N : Nat) (s : List UInt8) (xs : List Ld) (l : List UInt8) (hn : rdD l = none) (hq : l ∉ askW) (hl : l.length ≤ 2097152) (p x y z : List UInt8) (hp : p = [97, 116]) (hc : cutL 32 l = [p, x, y, z]) (a : Option Addr) (cap : Nat) (w : World) (hN : NowOk N s) (h : LdsAt w a xs) (h0 : a = none → cap = 0) (hd : dkB (((N : Int), s), xs) = true) :
    Calls Tryz.prog 21 #[.agg #[.int .i64 N, .string (bs s), .slice a xs.length cap], .string (bs l)] w (LinePost (((N, s), xs), ansO N s l) w) := by
  have g2 : w.grownBy ((w.alloc (.cells #[.int .i64 N, .string (bs s), .slice a xs.length cap] 32)).alloc (.cells #[.int .i64 0, .string ⟨#[]⟩, .slice none 0 0] 32)) none := grownBy_trans (World.grownBy_alloc w _ none) (World.grownBy_alloc _ _ none)
  have hZ := Lib.hid (CellsAt.second w (.cells #[.int .i64 N, .string (bs s), .slice a xs.length cap] 32) #[.int .i64 0, .string ⟨#[]⟩, .slice none 0 0] 32)
  have hD := Lib.hid (CellsAt.first w (.cells #[.int .i64 0, .string ⟨#[]⟩, .slice none 0 0] 32) #[.int .i64 N, .string (bs s), .slice a xs.length cap] 32)
  have ck := sdesk_is ((N, s), xs) a cap _ (h.grown g2)
  rw [hd] at ck
  unfold dkV at ck
  have cr := fun w => srd_v l _ (rdV_none hn) w hl
  unfold ddV nilDd at cr
  rw [show bs ([] : List UInt8) = ⟨#[]⟩ from rfl] at cr
  have hx8 : xs.length ≤ 9 := by have := (dkB_of hd).2.2; change xs.length ≤ 8 at this; omega
  have cc : ∀ W, LdsAt W a xs → Calls Tryz.prog 60 #[.agg #[.int .i64 N, .string (bs s), .slice a xs.length cap]] W fun e w' => ∃ a' cap', e = .returned (.agg #[.int .i64 N, .string (bs s), .slice a' xs.length cap']) ∧ Own2 w' W.heap.size a' cap' xs ∧ W.grownBy w' none := fun W hW => scopy_any ((N, s), xs) a cap W hW h0 hx8
  have HX := Lib.hid (h.grown g2)
  have G2 := Lib.hid g2
  have HN := Lib.hid hN
  obtain ⟨U, hU⟩ : ∃ U, U = bs l := ⟨_, rfl⟩
  rw [← hU] at cr ⊢
  have u0 : (U.toList == [115, 116, 101, 112, 115]) = false := by rw [hU, toL_bs]; exact beq_false_of_ne fun e => hq (by rw [e]; decide)
  have u1 : (U.toList == [116, 101, 120, 116]) = false := by rw [hU, toL_bs]; exact beq_false_of_ne fun e => hq (by rw [e]; decide)
  have u2 : (U.toList == [97, 108, 119, 97, 121, 115]) = false := by rw [hU, toL_bs]; exact beq_false_of_ne fun e => hq (by rw [e]; decide)
  have u3 : (U.toList == [108, 101, 97, 115, 116]) = false := by rw [hU, toL_bs]; exact beq_false_of_ne fun e => hq (by rw [e]; decide)
  have u4 : (U.toList == [97, 103, 97, 105, 110, 115, 116]) = false := by rw [hU, toL_bs]; exact beq_false_of_ne fun e => hq (by rw [e]; decide)
  have u5 : (U.toList == [99, 104, 97, 105, 110, 115]) = false := by rw [hU, toL_bs]; exact beq_false_of_ne fun e => hq (by rw [e]; decide)
  have u6 : (U.toList == [108, 101, 116, 116, 101, 114, 115]) = false := by rw [hU, toL_bs]; exact beq_false_of_ne fun e => hq (by rw [e]; decide)
  have u7 : (U.toList == [109, 111, 118, 101, 115]) = false := by rw [hU, toL_bs]; exact beq_false_of_ne fun e => hq (by rw [e]; decide)
  have u8 : (U.toList == [114, 111, 119]) = false := by rw [hU, toL_bs]; exact beq_false_of_ne fun e => hq (by rw [e]; decide)
  obtain ⟨Y, hY⟩ : ∃ Y, Y = ansO N s l := ⟨_, rfl⟩
  have hYA : Y = ansA N s x y z := by rw [hY]; unfold ansO; rw [hc]; exact if_pos hp
  rw [← hY]
  clear hY
  obtain ⟨D1, hx⟩ : ∃ D, D = digI x := ⟨_, rfl⟩
  obtain ⟨D2, hy⟩ : ∃ D, D = digI y := ⟨_, rfl⟩
  obtain ⟨D3, hz⟩ : ∃ D, D = digI z := ⟨_, rfl⟩
  obtain ⟨V, hV⟩ : ∃ V, V = valI N s D1 D2 D3 := ⟨_, rfl⟩
  unfold ansA at hYA
  rw [← hx, ← hy, ← hz, ← hV] at hYA
  have hlx : x.length ≤ l.length ∧ y.length ≤ l.length ∧ z.length ≤ l.length := ⟨cutw_len hc (by simp), cutw_len hc (by simp), cutw_len hc (by simp)⟩
  have cs : ∀ W, Calls Tryz.prog 73 #[.string U, .int .u8 32] W (ScPost 32 l W) := fun W => by rw [hU]; exact sct_any l hl W
  unfold ScPost at cs
  have l4 : (cutL 32 l).length = 4 := by rw [hc]; rfl
  rw [l4] at cs
  have up : ((bs p).toList == [97, 116]) = true := by rw [toL_bs, hp]; rfl
  have cx : ∀ W, Calls Tryz.prog 76 #[.string (bs x)] W fun e w' => e = .returned (.int .i64 D1) ∧ W = w' := fun W => by rw [hx]; exact sdig_any x (by omega) W
  have cy : ∀ W, Calls Tryz.prog 76 #[.string (bs y)] W fun e w' => e = .returned (.int .i64 D2) ∧ W = w' := fun W => by rw [hy]; exact sdig_any y (by omega) W
  have cz : ∀ W, Calls Tryz.prog 76 #[.string (bs z)] W fun e w' => e = .returned (.int .i64 D3) ∧ W = w' := fun W => by rw [hz]; exact sdig_any z (by omega) W
  have cv : ∀ W, Calls Tryz.prog 77 #[.int .i64 N, .string (bs s), .int .i64 D1, .int .i64 D2, .int .i64 D3] W fun e w' => e = .returned (.int .i64 V) ∧ W = w' := fun W => by rw [hV]; exact svalue_any N (bs s) D1 D2 D3 W
  have ct : ∀ W, Calls Tryz.prog 65 #[.int .i64 N, .int .i64 V] W fun e w' => e = .returned (.string (vtext N V)) ∧ W.grownBy w' none := fun W => stext_any N V W
  have HA1 : Hid (D1 < 0 ∨ D2 < 0 ∨ D3 < 0 → Y = whatA) := Lib.hid fun k => by rw [hYA, if_pos k]
  have HA2 : Hid (¬ D1 < 0 → ¬ D2 < 0 → ¬ D3 < 0 → V < 0 → Y = noneA) := Lib.hid fun k1 k2 k3 k => by rw [hYA, if_neg (by omega), if_pos k]
  have HA3 : Hid (¬ D1 < 0 → ¬ D2 < 0 → ¬ D3 < 0 → ¬ V < 0 → Y = vtext N V) := Lib.hid fun k1 k2 k3 k => by rw [hYA, if_neg (by omega), if_neg k]
  clear hYA hx hy hz hV hlx
  generalize vtext N V = TX at *
  clear h g2 hd hx8 hU hq hn hl l4 hp
  go_enter Tryz.func21, Tryz.ntmps21
  go_wp2_with fail
  generalize (w.alloc (.cells #[.int .i64 N, .string (bs s), .slice a xs.length cap] 32)).alloc (.cells #[.int .i64 0, .string ⟨#[]⟩, .slice none 0 0] 32) = W at *
  refine ck.mono ?_
  rintro e w1 ⟨rfl, hg1⟩
  have G1 := Lib.hid (grownBy_trans G2.out hg1)
  have HX1 := Lib.hid (HX.out.grown hg1)
  have hD1 := Lib.hid (hD.out.grown hg1)
  have hZ1 := Lib.hid (hZ.out.grown hg1)
  obtain ⟨d0, d1, d2⟩ := hD1.out.three
  clear ck hg1
  go_wp2_with fail
  refine (cc _ HX1.out).mono ?_
  rintro e w2 ⟨a', c', rfl, ho, hg2⟩
  have gA := World.grownBy_alloc w2 (.cells #[.int .i64 N, .string (bs s), .slice a' xs.length c'] 32) none
  have g12 := grownBy_trans hg2 gA
  have G12 := Lib.hid (grownBy_trans G1.out g12)
  have hD2 := Lib.hid (hD1.out.grown g12)
  have hZ2 := Lib.hid (hZ1.out.grown g12)
  have hS2 := Lib.hid (CellsAt.new w2 #[.int .i64 N, .string (bs s), .slice a' xs.length c'] 32)
  have HO := Lib.hid ((ho.kept gA).l.mono G1.out.size)
  have HB := Lib.hid ho.bare
  have hb2 : Hid (w.heap.size + 2 ≤ w2.heap.size) := Lib.hid (by
    have := hZ1.out.lt; have := hg2.size; omega)
  clear cc ho hg2 gA g12 d0 d1 d2
  go_wp2_with fail
  generalize w2.alloc (.cells #[.int .i64 N, .string (bs s), .slice a' xs.length c'] 32) = W2 at *
  generalize w2.heap.size = sb at *
  refine (cr _).mono ?_
  rintro e w3 ⟨rfl, hg3⟩
  have gA3 := grownBy_trans hg3 (World.grownBy_alloc w3 (.cells #[.int .i64 0, .int .i64 0, .string ⟨#[]⟩] 40) none)
  have G3 := Lib.hid (grownBy_trans G12.out gA3)
  have hD3 := Lib.hid (hD2.out.grown gA3)
  have hZ3 := Lib.hid (hZ2.out.grown gA3)
  have hS3 := Lib.hid (hS2.out.grown gA3)
  have HO3 := Lib.hid (HO.out.kept gA3)
  obtain ⟨d0, d1, d2⟩ := hD3.out.three
  obtain ⟨s0, s1, s2⟩ := hS3.out.three
  obtain ⟨⟨y0, y1, y2⟩, v0, v1, v2⟩ := dk_facts hZ3.out
  clear cr hg3 gA3
  go_wp2_with fail
  generalize w3.alloc (.cells #[.int .i64 0, .int .i64 0, .string ⟨#[]⟩] 40) = W3 at *
  refine (cs _).mono ?_
  rintro e w4 ⟨aw, cw, rfl, hT, hg4⟩
  obtain ⟨g0, rfl, hT⟩ := hT
  rw [hc] at hT
  have t0 := hT 0 (by simp)
  have t1 := hT 1 (by simp)
  have t2 := hT 2 (by simp)
  have t3 := hT 3 (by simp)
  change w4.cell? ⟨g0, 0, none⟩ = some (.string (bs p)) at t0
  change w4.cell? ⟨g0, 1, none⟩ = some (.string (bs x)) at t1
  change w4.cell? ⟨g0, 2, none⟩ = some (.string (bs y)) at t2
  change w4.cell? ⟨g0, 3, none⟩ = some (.string (bs z)) at t3
  clear hT
  have hZ4 := Lib.hid (hZ3.out.grown hg4)
  have hS4 := Lib.hid (hS3.out.grown hg4)
  have G4 := Lib.hid (grownBy_trans G3.out hg4)
  have HO4 := Lib.hid (HO3.out.kept hg4)
  obtain ⟨s0n, s1n, s2n⟩ := hS4.out.three
  obtain ⟨⟨y0n, y1n, y2n⟩, v0n, v1n, v2n⟩ := dk_facts hZ4.out
  clear cs hg4 hZ3 hS3 G3 HO3 s0 s1 s2 y0 y1 y2 v0 v1 v2
  generalize bs p = F at *
  generalize bs x = X1 at *
  generalize bs y = X2 at *
  generalize bs z = X3 at *
  clear hc
  go_wp2_with fail
  go_loopw [18] (fun kv wr => ((kv = .int .i64 1) ∨ (kv = .int .i64 2 ∧ ¬ D1 < 0) ∨ (kv = .int .i64 3 ∧ ¬ D1 < 0 ∧ ¬ D2 < 0) ∨ (kv = .int .i64 4 ∧ ¬ D1 < 0 ∧ ¬ D2 < 0 ∧ ¬ D3 < 0)) ∧ w4 = wr) (fun kv _ => 4 - (intOf kv).toNat)
  case atStart => exact ⟨.inl rfl, rfl⟩
  case round =>
    obtain ⟨hk, rfl⟩ := hrel
    rcases hk with rfl | ⟨rfl, k1⟩ | ⟨rfl, k1, k2⟩ | ⟨rfl, k1, k2, k3⟩
    · by_cases k1 : D1 < 0
      · obtain rfl := HA1.out (.inl k1)
        unfold whatA at *
        go_wp2_with (first | (go_at_call 76; (with_reducible refine (cx _).mono ?_); rintro e _ ⟨rfl, rfl⟩))
        have HZn := hZ4
        have HO := HO4
        have G3 := G4
        have GN : Hid (w4.grownBy w4 none) := Lib.hid (grownBy_refl _ _)
        have P : LinePost (((N, s), xs), ⟨#[119, 104, 97, 116]⟩) w (.returned (.tuple #[.agg #[.int .i64 N, .string (bs s), .slice a' xs.length c'], .string ⟨#[119, 104, 97, 116]⟩])) (((w4.setCell ⟨w.heap.size + 1, 0, none⟩ (.int .i64 N)).setCell ⟨w.heap.size + 1, 1, none⟩ (.string (bs s))).setCell ⟨w.heap.size + 1, 2, none⟩ (.slice a' xs.length c')) :=
          ⟨a', c', rfl, HO.out.put3 ⟨_, HZn.out⟩ _ _ _, HB.out, put3_grown _ (grownBy_trans G3.out GN.out) (by omega) _ _ _⟩
        exact bodyPost_ret (v := .tuple #[.agg #[.int .i64 N, .string (bs s), .slice a' xs.length c'], .string ⟨#[119, 104, 97, 116]⟩]) (resDkB (b := .string ⟨#[119, 104, 97, 116]⟩) rfl _ rfl rfl (HZn.out.put3 (.int .i64 N) (.string (bs s)) (.slice a' xs.length c'))) rfl P
      · go_wp2_with (first | (go_at_call 76; (with_reducible refine (cx _).mono ?_); rintro e _ ⟨rfl, rfl⟩))
        go_roundw
        case rel => exact ⟨.inr (.inl ⟨rfl, by omega⟩), by trivial⟩
        case measure => simp [intOf]
    · by_cases k2 : D2 < 0
      · obtain rfl := HA1.out (.inr (.inl k2))
        unfold whatA at *
        go_wp2_with (first | (go_at_call 76; (with_reducible refine (cy _).mono ?_); rintro e _ ⟨rfl, rfl⟩))
        have HZn := hZ4
        have HO := HO4
        have G3 := G4
        have GN : Hid (w4.grownBy w4 none) := Lib.hid (grownBy_refl _ _)
        have P : LinePost (((N, s), xs), ⟨#[119, 104, 97, 116]⟩) w (.returned (.tuple #[.agg #[.int .i64 N, .string (bs s), .slice a' xs.length c'], .string ⟨#[119, 104, 97, 116]⟩])) (((w4.setCell ⟨w.heap.size + 1, 0, none⟩ (.int .i64 N)).setCell ⟨w.heap.size + 1, 1, none⟩ (.string (bs s))).setCell ⟨w.heap.size + 1, 2, none⟩ (.slice a' xs.length c')) :=
          ⟨a', c', rfl, HO.out.put3 ⟨_, HZn.out⟩ _ _ _, HB.out, put3_grown _ (grownBy_trans G3.out GN.out) (by omega) _ _ _⟩
        exact bodyPost_ret (v := .tuple #[.agg #[.int .i64 N, .string (bs s), .slice a' xs.length c'], .string ⟨#[119, 104, 97, 116]⟩]) (resDkB (b := .string ⟨#[119, 104, 97, 116]⟩) rfl _ rfl rfl (HZn.out.put3 (.int .i64 N) (.string (bs s)) (.slice a' xs.length c'))) rfl P
      · go_wp2_with (first | (go_at_call 76; (with_reducible refine (cy _).mono ?_); rintro e _ ⟨rfl, rfl⟩))
        go_roundw
        case rel => exact ⟨.inr (.inr (.inl ⟨rfl, by omega, by omega⟩)), by trivial⟩
        case measure => simp [intOf]
    · by_cases k3 : D3 < 0
      · obtain rfl := HA1.out (.inr (.inr k3))
        unfold whatA at *
        go_wp2_with (first | (go_at_call 76; (with_reducible refine (cz _).mono ?_); rintro e _ ⟨rfl, rfl⟩))
        have HZn := hZ4
        have HO := HO4
        have G3 := G4
        have GN : Hid (w4.grownBy w4 none) := Lib.hid (grownBy_refl _ _)
        have P : LinePost (((N, s), xs), ⟨#[119, 104, 97, 116]⟩) w (.returned (.tuple #[.agg #[.int .i64 N, .string (bs s), .slice a' xs.length c'], .string ⟨#[119, 104, 97, 116]⟩])) (((w4.setCell ⟨w.heap.size + 1, 0, none⟩ (.int .i64 N)).setCell ⟨w.heap.size + 1, 1, none⟩ (.string (bs s))).setCell ⟨w.heap.size + 1, 2, none⟩ (.slice a' xs.length c')) :=
          ⟨a', c', rfl, HO.out.put3 ⟨_, HZn.out⟩ _ _ _, HB.out, put3_grown _ (grownBy_trans G3.out GN.out) (by omega) _ _ _⟩
        exact bodyPost_ret (v := .tuple #[.agg #[.int .i64 N, .string (bs s), .slice a' xs.length c'], .string ⟨#[119, 104, 97, 116]⟩]) (resDkB (b := .string ⟨#[119, 104, 97, 116]⟩) rfl _ rfl rfl (HZn.out.put3 (.int .i64 N) (.string (bs s)) (.slice a' xs.length c'))) rfl P
      · go_wp2_with (first | (go_at_call 76; (with_reducible refine (cz _).mono ?_); rintro e _ ⟨rfl, rfl⟩))
        go_roundw
        case rel => exact ⟨.inr (.inr (.inr ⟨rfl, by omega, by omega, by omega⟩)), by trivial⟩
        case measure => simp [intOf]
    · go_wp2_with fail
      have q1 := fun (W : World) (m : Nat) => quiet_of (cx (W.drewN m))
      have q2 := fun (W : World) (m : Nat) => quiet_of (cy (W.drewN m))
      have q3 := fun (W : World) (m : Nat) => quiet_of (cz (W.drewN m))
      have q4 := fun (W : World) (m : Nat) => quiet_of (cv (W.drewN m))
      clear cx cy cz cv
      go_quiet (first | (go_at_call 77; exact q4 _ _) | (go_at_call 76; first | with_reducible exact q1 _ _ | with_reducible exact q2 _ _ | with_reducible exact q3 _ _))
      have g5 := grownBy_drewN (grownBy_refl w4 none) nq
      generalize w4.drewN nq = W5 at *
      have hZ5 := Lib.hid (hZ4.out.grown g5)
      have hS5 := Lib.hid (hS4.out.grown g5)
      have G5 := Lib.hid (grownBy_trans G4.out g5)
      have HO5 := Lib.hid (HO4.out.kept g5)
      obtain ⟨s0, s1, s2⟩ := hS5.out.three
      obtain ⟨⟨y0, y1, y2⟩, v0, v1, v2⟩ := dk_facts hZ5.out
      clear q1 q2 q3 q4 g5 hZ4 hS4 G4 HO4
      have G3 := G5
      by_cases hv : V < 0
      · obtain rfl := HA2.out (by omega) (by omega) (by omega) (by omega)
        unfold noneA at *
        go_wp2_with fail
        have HZn := hZ5
        have HO := HO5
        have GN : Hid (W5.grownBy W5 none) := Lib.hid (grownBy_refl _ _)
        have P : LinePost (((N, s), xs), ⟨#[110, 111, 110, 101]⟩) w (.returned (.tuple #[.agg #[.int .i64 N, .string (bs s), .slice a' xs.length c'], .string ⟨#[110, 111, 110, 101]⟩])) (((W5.setCell ⟨w.heap.size + 1, 0, none⟩ (.int .i64 N)).setCell ⟨w.heap.size + 1, 1, none⟩ (.string (bs s))).setCell ⟨w.heap.size + 1, 2, none⟩ (.slice a' xs.length c')) :=
          ⟨a', c', rfl, HO.out.put3 ⟨_, HZn.out⟩ _ _ _, HB.out, put3_grown _ (grownBy_trans G3.out GN.out) (by omega) _ _ _⟩
        exact bodyPost_ret (v := .tuple #[.agg #[.int .i64 N, .string (bs s), .slice a' xs.length c'], .string ⟨#[110, 111, 110, 101]⟩]) (resDkB (b := .string ⟨#[110, 111, 110, 101]⟩) rfl _ rfl rfl (HZn.out.put3 (.int .i64 N) (.string (bs s)) (.slice a' xs.length c'))) rfl P
      · obtain rfl := HA3.out (by omega) (by omega) (by omega) (by omega)
        have hZ3 := hZ5
        have hS3 := hS5
        have HO3 := HO5
        go_wp2_with fail
        go_region_with (first | (go_at_call 65; (with_reducible refine (ct _).mono ?_); rintro e wn ⟨rfl, gn⟩; have GN := Lib.hid (drew_grown gn); have HZn := Lib.hid (hZ3.out.grown GN.out); obtain ⟨s0n, s1n, s2n⟩ := (hS3.out.grown GN.out).three; obtain ⟨⟨y0, y1, y2⟩, v0, v1, v2⟩ := dk_facts HZn.out; have HO := Lib.hid (HO3.out.kept GN.out); clear gn))
        all_goals go_wp2_with fail
        all_goals
          have P : LinePost (((N, s), xs), Y) w (.returned (.tuple #[.agg #[.int .i64 N, .string (bs s), .slice a' xs.length c'], .string Y])) (((wn.setCell ⟨w.heap.size + 1, 0, none⟩ (.int .i64 N)).setCell ⟨w.heap.size + 1, 1, none⟩ (.string (bs s))).setCell ⟨w.heap.size + 1, 2, none⟩ (.slice a' xs.length c')) :=
            ⟨a', c', rfl, HO.out.put3 ⟨_, HZn.out⟩ _ _ _, HB.out, put3_grown _ (grownBy_trans G3.out GN.out) (by omega) _ _ _⟩
          exact bodyPost_ret (v := .tuple #[.agg #[.int .i64 N, .string (bs s), .slice a' xs.length c'], .string Y]) (resDkB (b := .string Y) rfl _ rfl rfl (HZn.out.put3 (.int .i64 N) (.string (bs s)) (.slice a' xs.length c'))) rfl P

end Go.Proofs.YtlnffpofbfigaaaGreatDoor

/-
  The model's DeskLine at a deed, at no desk, and so at any line.
-/
namespace Go.Proofs.YtlnffpofbfigaaaGreatDoor
open Go.RowKit

set_option maxRecDepth 8000 in
set_option maxHeartbeats 2000000 in
theorem sdl_deed (N : Int) (s : List UInt8) (xs : List Ld) (D : Dd) (l : List UInt8) (a : Option Addr) (cap : Nat) (w : World) (hn : rdD l = some D) (hl : l.length ≤ 2097152) (h : LdsAt w a xs) (h0 : a = none → cap = 0) (hd : dkB ((N, s), xs) = true) :
    Calls Tryz.prog 21 #[.agg #[.int .i64 N, .string (bs s), .slice a xs.length cap], .string (bs l)] w (LnPost (doR ((N, s), xs) D) w) := by
  have g2 : w.grownBy ((w.alloc (.cells #[.int .i64 N, .string (bs s), .slice a xs.length cap] 32)).alloc (.cells #[.int .i64 0, .string ⟨#[]⟩, .slice none 0 0] 32)) none := grownBy_trans (World.grownBy_alloc w _ none) (World.grownBy_alloc _ _ none)
  have hZ := Lib.hid (CellsAt.second w (.cells #[.int .i64 N, .string (bs s), .slice a xs.length cap] 32) #[.int .i64 0, .string ⟨#[]⟩, .slice none 0 0] 32)
  have hD := Lib.hid (CellsAt.first w (.cells #[.int .i64 0, .string ⟨#[]⟩, .slice none 0 0] 32) #[.int .i64 N, .string (bs s), .slice a xs.length cap] 32)
  have ck := sdesk_is ((N, s), xs) a cap _ (h.grown g2)
  rw [hd] at ck
  unfold dkV at ck
  have cr := fun w => srd_v l _ (rdV_some hn) w hl
  unfold ddV at cr
  have hx8 : xs.length ≤ 9 := by have := (dkB_of hd).2.2; change xs.length ≤ 8 at this; omega
  have cc : ∀ W, LdsAt W a xs → Calls Tryz.prog 60 #[.agg #[.int .i64 N, .string (bs s), .slice a xs.length cap]] W fun e w' => ∃ a' cap', e = .returned (.agg #[.int .i64 N, .string (bs s), .slice a' xs.length cap']) ∧ Own2 w' W.heap.size a' cap' xs ∧ W.grownBy w' none := fun W hW => scopy_any ((N, s), xs) a cap W hW h0 hx8
  have HX := Lib.hid (h.grown g2)
  have G2 := Lib.hid g2
  obtain ⟨⟨⟨⟨p2, u2⟩, ys2⟩, ok⟩, hR⟩ : ∃ R, R = doR ((N, s), xs) D := ⟨_, rfl⟩
  have cd : ∀ W, LdsAt W a xs → Calls Tryz.prog 61 #[.agg #[.int .i64 N, .string (bs s), .slice a xs.length cap], .agg #[.int .i64 D.1, .int .i64 D.2.1, .string (bs D.2.2)]] W fun e w' => ∃ a' cap', e = .returned (.tuple #[.agg #[.int .i64 p2, .string (bs u2), .slice a' ys2.length cap'], .bool ok]) ∧ OwnL w' W.heap.size a' ys2 ∧ (a' = none → cap' = 0) ∧ W.grownBy w' none := fun W hW => by
    have := sdo_do ((N, s), xs) D a cap W hW h0
    rw [← hR] at this
    exact this
  rw [← hR]
  obtain ⟨U, hU⟩ : ∃ U, U = bs l := ⟨_, rfl⟩
  rw [← hU] at cr ⊢
  clear h g2 hd hx8 hU hn hl hR
  go_enter Tryz.func21, Tryz.ntmps21
  go_wp2_with fail
  generalize (w.alloc (.cells #[.int .i64 N, .string (bs s), .slice a xs.length cap] 32)).alloc (.cells #[.int .i64 0, .string ⟨#[]⟩, .slice none 0 0] 32) = W at *
  refine ck.mono ?_
  rintro e w1 ⟨rfl, hg1⟩
  have G1 := Lib.hid (grownBy_trans G2.out hg1)
  have HX1 := Lib.hid (HX.out.grown hg1)
  have hD1 := Lib.hid (hD.out.grown hg1)
  have hZ1 := Lib.hid (hZ.out.grown hg1)
  obtain ⟨d0, d1, d2⟩ := hD1.out.three
  clear ck hg1
  go_wp2_with fail
  refine (cc _ HX1.out).mono ?_
  rintro e w2 ⟨a', c', rfl, ho, hg2⟩
  have gA := World.grownBy_alloc w2 (.cells #[.int .i64 N, .string (bs s), .slice a' xs.length c'] 32) none
  have g12 := grownBy_trans hg2 gA
  have G12 := Lib.hid (grownBy_trans G1.out g12)
  have hD2 := Lib.hid (hD1.out.grown g12)
  have hZ2 := Lib.hid (hZ1.out.grown g12)
  have hS2 := Lib.hid (CellsAt.new w2 #[.int .i64 N, .string (bs s), .slice a' xs.length c'] 32)
  have HX2 := Lib.hid (HX1.out.grown g12)
  have hb2 : Hid (w.heap.size + 2 ≤ w2.heap.size) := Lib.hid (by
    have := hZ1.out.lt; have := hg2.size; omega)
  clear cc ho hg2 gA g12 d0 d1 d2
  go_wp2_with fail
  generalize w2.alloc (.cells #[.int .i64 N, .string (bs s), .slice a' xs.length c'] 32) = W2 at *
  generalize w2.heap.size = sb at *
  refine (cr _).mono ?_
  rintro e w3 ⟨rfl, hg3⟩
  have gA := World.grownBy_alloc w3 (.cells #[.int .i64 D.1, .int .i64 D.2.1, .string (bs D.2.2)] 40) none
  have gW3 := Lib.hid (grownBy_trans hg3 gA)
  obtain ⟨d0, d1, d2⟩ := (hD2.out.grown gW3.out).three
  obtain ⟨e0, e1, e2⟩ := (CellsAt.new w3 #[.int .i64 D.1, .int .i64 D.2.1, .string (bs D.2.2)] 40).three
  clear cr hg3 gA
  go_wp2_with fail
  refine (cd _ (HX2.out.grown gW3.out)).mono ?_
  rintro e w4 ⟨a3, c3, rfl, o3, z3, hg4⟩
  have gX := World.grownBy_alloc w4 (.cells #[.int .i64 p2, .string (bs u2), .slice a3 ys2.length c3] 32) none
  have gW4 := Lib.hid (grownBy_trans gW3.out (grownBy_trans hg4 gX))
  have G4 := Lib.hid (grownBy_trans G12.out gW4.out)
  have hZ4 := Lib.hid (hZ2.out.grown gW4.out)
  obtain ⟨⟨y0, y1, y2⟩, v0, v1, v2⟩ := dk_facts hZ4.out
  obtain ⟨x0, x1, x2⟩ := (CellsAt.new w4 #[.int .i64 p2, .string (bs u2), .slice a3 ys2.length c3] 32).three
  have O4 := Lib.hid ((o3.kept gX).mono (base' := w.heap.size) (grownBy_trans G12.out gW3.out).size)
  have F := Lib.hid (hZ4.out.put3 (.int .i64 p2) (.string (bs u2)) (.slice a3 ys2.length c3))
  have P : Hid (LnPost (((p2, u2), ys2), ok) w (.returned (.tuple #[.agg #[.int .i64 p2, .string (bs u2), .slice a3 ys2.length c3], .string (okT ok)])) ((((w4.alloc (.cells #[.int .i64 p2, .string (bs u2), .slice a3 ys2.length c3] 32)).setCell ⟨w.heap.size + 1, 0, none⟩ (.int .i64 p2)).setCell ⟨w.heap.size + 1, 1, none⟩ (.string (bs u2))).setCell ⟨w.heap.size + 1, 2, none⟩ (.slice a3 ys2.length c3))) :=
    ⟨a3, c3, rfl, O4.out.put3 ⟨_, hZ4.out⟩ _ _ _, z3, put3_grown _ G4.out (by omega) _ _ _⟩
  clear hg4 gX cd e0 e1 e2 o3 d0 d1 d2
  cases ok
  · go_wp2_with fail
    exact bodyPost_ret (v := .tuple #[.agg #[.int .i64 p2, .string (bs u2), .slice a3 ys2.length c3], .string (okT false)]) (resDkB (b := .string (okT false)) rfl _ rfl rfl F.out) rfl P.out
  · go_wp2_with fail
    exact bodyPost_ret (v := .tuple #[.agg #[.int .i64 p2, .string (bs u2), .slice a3 ys2.length c3], .string (okT true)]) (resDkB (b := .string (okT true)) rfl _ rfl rfl F.out) rfl P.out

set_option maxRecDepth 8000 in
set_option maxHeartbeats 2000000 in
theorem sdl_bad (m : Int) (s : List UInt8) (xs : List Ld) (l : List UInt8) (a : Option Addr) (cap : Nat) (w : World) (h : LdsAt w a xs) (hd : dkB ((m, s), xs) = false) :
    Calls Tryz.prog 21 #[.agg #[.int .i64 m, .string (bs s), .slice a xs.length cap], .string (bs l)] w (LinePost (nilDk, ⟨#[]⟩) w) := by
  have g2 : w.grownBy ((w.alloc (.cells #[.int .i64 m, .string (bs s), .slice a xs.length cap] 32)).alloc (.cells #[.int .i64 0, .string ⟨#[]⟩, .slice none 0 0] 32)) none := grownBy_trans (World.grownBy_alloc w _ none) (World.grownBy_alloc _ _ none)
  have hZ := Lib.hid (CellsAt.second w (.cells #[.int .i64 m, .string (bs s), .slice a xs.length cap] 32) #[.int .i64 0, .string ⟨#[]⟩, .slice none 0 0] 32)
  have ck := sdesk_is ((m, s), xs) a cap _ (h.grown g2)
  rw [hd] at ck
  unfold dkV at ck
  have G2 := Lib.hid g2
  generalize bs l = U at *
  clear h g2 hd
  go_enter Tryz.func21, Tryz.ntmps21
  go_wp2_with fail
  generalize (w.alloc (.cells #[.int .i64 m, .string (bs s), .slice a xs.length cap] 32)).alloc (.cells #[.int .i64 0, .string ⟨#[]⟩, .slice none 0 0] 32) = W at *
  refine ck.mono ?_
  rintro e w1 ⟨rfl, hg1⟩
  have HZ1 := Lib.hid (hZ.out.grown hg1)
  have G1 := Lib.hid (grownBy_trans G2.out hg1)
  obtain ⟨⟨y0, y1, y2⟩, v0, v1, v2⟩ := dk_facts HZ1.out
  clear ck hg1
  go_wp2_with fail
  have F := HZ1.out.put3 (.int .i64 0) (.string ⟨#[]⟩) (.slice none 0 0)
  have P : LinePost (nilDk, ⟨#[]⟩) w (.returned (.tuple #[.agg #[.int .i64 0, .string ⟨#[]⟩, .slice none 0 0], .string ⟨#[]⟩])) (((w1.setCell ⟨w.heap.size + 1, 0, none⟩ (.int .i64 0)).setCell ⟨w.heap.size + 1, 1, none⟩ (.string ⟨#[]⟩)).setCell ⟨w.heap.size + 1, 2, none⟩ (.slice none 0 0)) :=
    ⟨none, 0, rfl, OwnL.nil _ _ _, fun _ => rfl, put3_grown _ G1.out (by omega) _ _ _⟩
  exact bodyPost_ret (v := .tuple #[.agg #[.int .i64 0, .string ⟨#[]⟩, .slice none 0 0], .string ⟨#[]⟩]) (resDkB (b := .string ⟨#[]⟩) rfl _ rfl rfl F) rfl P

theorem sdl_q (q N : Nat) (s l : List UInt8) (xs : List Ld) (a : Option Addr) (cap : Nat) (w : World) (hq : askW[q]? = some l) (hN : NowOk N s) (h : LdsAt w a xs) (h0 : a = none → cap = 0) (hd : dkB (((N : Int), s), xs) = true) :
    Calls Tryz.prog 21 #[.agg #[.int .i64 N, .string (bs s), .slice a xs.length cap], .string (bs l)] w (LinePost (((N, s), xs), ansQ N s q) w) := by
  have hq9 : q < 9 := (List.getElem?_eq_some_iff.1 hq).1
  match q, hq9, hq with
  | 0, _, hq => cases hq; exact sdl_q0 N s xs a cap w hN h h0 hd
  | 1, _, hq => cases hq; exact sdl_q1 N s xs a cap w hN h h0 hd
  | 2, _, hq => cases hq; exact sdl_q2 N s xs a cap w hN h h0 hd
  | 3, _, hq => cases hq; exact sdl_q3 N s xs a cap w hN h h0 hd
  | 4, _, hq =>
    cases hq
    cases hk : agI N s with
    | none => exact sdl_q4n N s xs hk a cap w hN h h0 hd
    | some k => exact sdl_q4s N s xs k hk a cap w hN h h0 hd
  | 5, _, hq => cases hq; exact sdl_q5 N s xs a cap w hN h h0 hd
  | 6, _, hq => cases hq; exact sdl_q6 N s xs a cap w hN h h0 hd
  | 7, _, hq => cases hq; exact sdl_q7 N s xs a cap w hN h h0 hd
  | 8, _, hq => cases hq; exact sdl_q8 N s xs a cap w hN h h0 hd

theorem sdl_o (N : Nat) (s : List UInt8) (xs : List Ld) (l : List UInt8) (hn : rdD l = none) (hq : l ∉ askW) (hl : l.length ≤ 2097152) (a : Option Addr) (cap : Nat) (w : World) (hN : NowOk N s) (h : LdsAt w a xs) (h0 : a = none → cap = 0) (hd : dkB (((N : Int), s), xs) = true) :
    Calls Tryz.prog 21 #[.agg #[.int .i64 N, .string (bs s), .slice a xs.length cap], .string (bs l)] w (LinePost (((N, s), xs), ansO N s l) w) := by
  by_cases hc : (cutL 32 l).length ≠ 2 ∧ (cutL 32 l).length ≠ 4
  · exact sdl_c N s xs l hn hq hl hc a cap w hN h h0 hd
  · match hL : cutL 32 l, hc with
    | [], hc => exact absurd (by simp) hc
    | [_], hc => exact absurd (by simp) hc
    | [f, x], _ =>
      by_cases hf : f = [102, 114, 111, 109]
      · cases hx : isF x
        · exact sdl_nofrom N s xs l hn hq hl f x hf hx hL a cap w hN h h0 hd
        · exact sdl_from N s xs l hn hq hl f x hf hx hL a cap w hN h h0 hd
      · exact sdl_two N s xs l hn hq hl f x hf hL a cap w hN h h0 hd
    | [_, _, _], hc => exact absurd (by simp) hc
    | [p, x, y, z], _ =>
      by_cases hp : p = [97, 116]
      · exact sdl_at N s xs l hn hq hl p x y z hp hL a cap w hN h h0 hd
      · exact sdl_four N s xs l hn hq hl p x y z hp hL a cap w hN h h0 hd
    | _ :: _ :: _ :: _ :: _ :: _, hc => exact absurd (by simp) hc

/-- The model's DeskLine, at any desk and any line. -/
theorem sdl_any (d : Dk) (l : List UInt8) (a : Option Addr) (cap : Nat) (w : World) (hl : l.length ≤ 2097152) (h : LdsAt w a d.2) (h0 : a = none → cap = 0) :
    Calls Tryz.prog 21 #[dkV d a cap, .string (bs l)] w (LinePost (lineR d l) w) := by
  obtain ⟨⟨m, s⟩, xs⟩ := d
  unfold lineR
  cases hd : dkB ((m, s), xs)
  · simp only [Bool.false_eq_true, if_false]
    exact sdl_bad m s xs l a cap w h hd
  · simp only [if_true]
    cases hq : rdD l with
    | some D => exact sdl_deed m s xs D l a cap w hq hl h h0 hd
    | none =>
      obtain ⟨N, rfl, hN⟩ := now_ok hd
      by_cases hw : l ∈ askW
      · obtain ⟨q, hq2⟩ := List.getElem?_of_mem hw
        rw [ansD_q hq2]
        exact sdl_q q N s l xs a cap w hq2 hN h h0 hd
      · rw [ansD_o hw]
        exact sdl_o N s xs l hq hw hl a cap w hN h h0 hd

end Go.Proofs.YtlnffpofbfigaaaGreatDoor

/-
  The walk of FnDeskLine.
-/
namespace Go.Proofs.YtlnffpofbfigaaaGreatDoor
open Go.RowKit

def LineTo (p : Int) (u : List UInt8) (ys : List Ld) (A : ByteArray) (w : World) (e : Ending) (w' : World) : Prop := ∃ (a : Option Addr) (cap : Nat), e = .returned (.tuple #[.agg #[.int .i64 p, .string (bs u), .slice a ys.length cap], .string A]) ∧ LdsAt w' a ys ∧ (a = none → cap = 0) ∧ w.grownBy w' none
theorem lineTo_of {r : Dk × ByteArray} {p : Int} {u : List UInt8} {ys : List Ld} {A : ByteArray} {w w' : World} {e : Ending} (hr : r = (((p, u), ys), A)) (h : LinePost r w e w') : LineTo p u ys A w e w' := by
  subst hr
  obtain ⟨a, cap, rfl, ho, h0, hg⟩ := h
  exact ⟨a, cap, rfl, ho.at, h0, hg⟩
theorem line_no {d : Dk} {l : List UInt8} (h : dkB d = false) : lineR d l = (nilDk, ⟨#[]⟩) := by
  unfold lineR; rw [if_neg (by rw [h]; simp)]
/-- What a line to a desk leaves is a desk; unless the answer is ok, it is the desk before. -/
theorem line_yes {d e : Dk} {l : List UInt8} {A : ByteArray} (h : dkB d = true) (hr : lineR d l = (e, A)) : dkB e = true ∧ ((A.toList == [111, 107]) = true ∨ e = d) := by
  unfold lineR at hr
  rw [if_pos h] at hr
  cases hq : rdD l with
  | none => rw [hq] at hr; cases hr; exact ⟨h, .inr rfl⟩
  | some D =>
    rw [hq] at hr
    simp only at hr
    cases hk : doD d D with
    | none => rw [doR_none h hk] at hr; cases hr; exact ⟨h, .inr rfl⟩
    | some f => rw [doR_some h hk] at hr; cases hr; exact ⟨do_ok h hk, .inl (by rw [ByteArray.toList_eq]; rfl)⟩
theorem line_nil {d : Dk} (h : dkB d = true) : lineR d [] = (d, whatA) := by
  unfold lineR
  rw [if_pos h, show rdD [] = none by decide]
  show (d, ansD d.1.1 d.1.2 []) = _
  rw [ansD_o (by decide), ansO_one (by simp)]

set_option maxRecDepth 100000 in
set_option maxHeartbeats 8000000 in
theorem FnDeskLine_walk (a0 : Option Addr) (len0 cap0 : Nat) (z0 : List Int) (w : World) (w0 : IsRow .u8 w a0 len0 cap0 z0) (hT : WdAt w ∧ ErAt w) :
    Calls Tryz.prog 4 #[.slice a0 len0 cap0] w fun e w' => e = .returned (.bool true) ∧ Below w.heap.size w w' := by
  by_cases hl : (1048576 : Int) < (len0 : Int)
  · clear w0
    go_enter Tryz.func4, Tryz.ntmps4
    go_wp2_with fail
    go_ret
    exact ⟨rfl, Below.refl _ _⟩
  · go_enter Tryz.func4, Tryz.ntmps4
    go_wp2_with fail
    refine (DrawDeskLine_any _ _ _ _ _ w0).mono ?_
    rintro e w1 ⟨d, a, c, l, rfl, hd, h0, hll, g1⟩
    clear w0
    obtain ⟨⟨m, s⟩, xs⟩ := d
    have hA := CellsAt.new w1 #[.int .i64 m, .string (bs s), .slice a xs.length c] 32
    have gA := World.grownBy_alloc w1 (.cells #[.int .i64 m, .string (bs s), .slice a xs.length c] 32) none
    have hx := hd.grown gA
    have G1 := Lib.hid (grownBy_trans g1 gA)
    have HT := Lib.hid (show WdAt _ ∧ ErAt _ from ⟨hT.1.grown G1.out, hT.2.grown G1.out⟩)
    obtain ⟨x0, x1, x2⟩ := hA.three
    clear g1 hd gA hT
    unfold dkV
    go_wp2_with fail
    change LdsAt _ a xs at hx
    generalize w1.alloc (.cells #[.int .i64 m, .string (bs s), .slice a xs.length c] 32) = W1 at *
    generalize w1.heap.size = b at *
    have HA := Lib.hid hA
    have HX := Lib.hid hx
    clear hA hx
    obtain ⟨R, hR⟩ : ∃ R, R = lineR ((m, s), xs) l := ⟨_, rfl⟩
    obtain ⟨⟨⟨p, u⟩, ys⟩, A⟩ := R
    obtain ⟨U, hU⟩ : ∃ U, U = bs l := ⟨_, rfl⟩
    have c1 : ∀ w, W1.grownBy w none → Calls Tryz.prog 14 #[.agg #[.int .i64 m, .string (bs s), .slice a xs.length c], .string U] w (LineTo p u ys A w) := fun w hg => by
      rw [hU]
      exact (idl_any ((m, s), xs) l a c w (by omega) (HX.out.grown hg) h0 ⟨HT.out.1.grown hg, HT.out.2.grown hg⟩).mono fun _ _ q => lineTo_of hR.symm q
    have c2 : ∀ w, W1.grownBy w none → Calls Tryz.prog 21 #[.agg #[.int .i64 m, .string (bs s), .slice a xs.length c], .string U] w (LineTo p u ys A w) := fun w hg => by
      rw [hU]
      exact (sdl_any ((m, s), xs) l a c w (by omega) (HX.out.grown hg) h0).mono fun _ _ q => lineTo_of hR.symm q
    rw [← hU]
    clear hU hll
    refine (c1 _ (grownBy_refl _ _)).mono ?_
    rintro e w2 ⟨a1, k1, rfl, o1, z1, g2⟩
    have hX := CellsAt.new w2 #[.int .i64 p, .string (bs u), .slice a1 ys.length k1] 32
    have gX := World.grownBy_alloc w2 (.cells #[.int .i64 p, .string (bs u), .slice a1 ys.length k1] 32) none
    have o1' := o1.grown gX
    have G2 := Lib.hid (grownBy_trans g2 gX)
    obtain ⟨x0, x1, x2⟩ := (HA.out.grown G2.out).three
    clear g2 o1 gX c1
    go_wp2_with fail
    generalize w2.alloc (.cells #[.int .i64 p, .string (bs u), .slice a1 ys.length k1] 32) = W2 at *
    generalize w2.heap.size = bx at *
    have HB := Lib.hid hX
    have L1 := Lib.hid o1'
    clear hX o1'
    refine (c2 _ G2.out).mono ?_
    rintro e w3 ⟨a2, k2, rfl, o2, z2, g3⟩
    have hY := CellsAt.new w3 #[.int .i64 p, .string (bs u), .slice a2 ys.length k2] 32
    have gY := World.grownBy_alloc w3 (.cells #[.int .i64 p, .string (bs u), .slice a2 ys.length k2] 32) none
    have g23 := grownBy_trans g3 gY
    have HBB := Lib.hid (HB.out.grown g23)
    have L1' := Lib.hid (L1.out.grown g23)
    have L2 := Lib.hid (o2.grown gY)
    have G3 := Lib.hid (grownBy_trans G2.out g23)
    obtain ⟨x0, x1, x2⟩ := HBB.out.three
    obtain ⟨y0, y1, y2⟩ := hY.three
    clear g3 o2 gY c2 g23 z2
    go_wp2_with fail
    generalize w3.alloc (.cells #[.int .i64 p, .string (bs u), .slice a2 ys.length k2] 32) = W3 at *
    generalize w3.heap.size = bb at *
    clear hY
    have c3 : ∀ w, W3.grownBy w none → Calls Tryz.prog 18 #[.agg #[.int .i64 p, .string (bs u), .slice a1 ys.length k1], .agg #[.int .i64 p, .string (bs u), .slice a2 ys.length k2]] w fun e w' => e = .returned (.bool true) ∧ w.grownBy w' none := fun w hg => by
      have := dksame_any ((p, u), ys) ((p, u), ys) a1 a2 k1 k2 w (L1'.out.grown hg) (L2.out.grown hg)
      rw [sameK_self] at this
      exact this
    refine (c3 _ (grownBy_refl _ _)).mono ?_
    rintro e w4 ⟨rfl, g4⟩
    have hvv : (A.toList == A.toList) = true := by simp
    have G4 := Lib.hid (grownBy_trans G3.out g4)
    have HB4 := Lib.hid (HBB.out.grown g4)
    have L4 := Lib.hid (L1'.out.grown g4)
    obtain ⟨x0, x1, x2⟩ := HB4.out.three
    obtain ⟨y0, y1, y2⟩ := (HA.out.grown G4.out).three
    clear c3 g4 HBB L1' L2 L1 HB
    have cO : ∀ w, W1.grownBy w none → Calls Tryz.prog 13 #[.agg #[.int .i64 m, .string (bs s), .slice a xs.length c]] w fun e w' => e = .returned (.bool (dkB ((m, s), xs))) ∧ w.grownBy w' none := fun w hg => sdesk_is ((m, s), xs) a c w (HX.out.grown hg)
    cases hd0 : dkB ((m, s), xs)
    · rw [hd0] at cO
      rw [line_no hd0] at hR
      cases hR
      have cn : ∀ w, w4.grownBy w none → Calls Tryz.prog 22 #[.agg #[.int .i64 0, .string (bs []), .slice a1 0 k1]] w fun e w' => e = .returned (.bool true) ∧ w.grownBy w' none := fun w hg => by
        have := dkno_any ((0, []), []) a1 k1 w (L4.out.grown hg)
        rw [show sameK ((0, []), []) nilDk = true from sameK_self _] at this
        exact this
      clear hd0
      go_wp2_with (first | (go_at_call 13; (with_reducible refine (cO _ G4.out).mono ?_); rintro e w5 ⟨rfl, g5⟩; obtain ⟨x0, x1, x2⟩ := (HB4.out.grown g5).three; have G5 := Lib.hid g5; clear g5 cO) | (go_at_call 22; (with_reducible refine (cn _ G5.out).mono ?_); rintro e w6 ⟨rfl, g6⟩) | (go_at_call 19; refine (alive_any _).mono ?_; rintro e w9 ⟨rfl, rfl⟩))
      go_ret
      exact ⟨rfl, below_of (grownBy_trans G1.out (grownBy_trans G4.out (grownBy_trans G5.out g6)))⟩
    · rw [hd0] at cO
      obtain ⟨hdx, hor⟩ := line_yes hd0 hR.symm
      have cz : ∀ w, W1.grownBy w none → Calls Tryz.prog 14 #[.agg #[.int .i64 m, .string (bs s), .slice a xs.length c], .string ⟨#[]⟩] w (LineTo m s xs ⟨#[119, 104, 97, 116]⟩ w) := fun w hg => (idl_any ((m, s), xs) [] a c w (by simp) (HX.out.grown hg) h0 ⟨HT.out.1.grown hg, HT.out.2.grown hg⟩).mono fun _ _ q => lineTo_of (line_nil hd0) q
      clear hR hd0
      go_wp2_with fail
      refine (cO _ G4.out).mono ?_
      rintro e w5 ⟨rfl, g5⟩
      have G5 := Lib.hid (grownBy_trans G4.out g5)
      have HB5 := Lib.hid (HB4.out.grown g5)
      have L5 := Lib.hid (L4.out.grown g5)
      obtain ⟨y0, y1, y2⟩ := (HA.out.grown G5.out).three
      clear g5 cO HB4 L4 G4
      go_wp2_with fail
      refine (cz _ G5.out).mono ?_
      rintro e w6 ⟨a3, k3, rfl, o3, z3, g6⟩
      have hZ := CellsAt.new w6 #[.int .i64 m, .string (bs s), .slice a3 xs.length k3] 32
      have gZ := World.grownBy_alloc w6 (.cells #[.int .i64 m, .string (bs s), .slice a3 xs.length k3] 32) none
      have G6 := Lib.hid (grownBy_trans G5.out (grownBy_trans g6 gZ))
      have HB6 := Lib.hid (HB5.out.grown (grownBy_trans g6 gZ))
      have L6 := Lib.hid (L5.out.grown (grownBy_trans g6 gZ))
      have L3 := Lib.hid (o3.grown gZ)
      obtain ⟨x0, x1, x2⟩ := HB6.out.three
      clear g6 gZ cz o3 z3 G5 HB5 L5 y0 y1 y2
      go_wp2_with fail
      generalize w6.alloc (.cells #[.int .i64 m, .string (bs s), .slice a3 xs.length k3] 32) = W6 at *
      generalize w6.heap.size = bz at *
      have ZB := Lib.hid hZ
      obtain ⟨v0, v1, v2⟩ := hZ.three
      obtain ⟨y0, y1, y2⟩ := (HA.out.grown G6.out).three
      have cI : ∀ w, W6.grownBy w none → Calls Tryz.prog 23 #[.agg #[.int .i64 p, .string (bs u), .slice a1 ys.length k1]] w fun e w' => e = .returned (.bool true) ∧ w.grownBy w' none := fun w hg => by
        have := idesk_any ((p, u), ys) a1 k1 w (L6.out.grown hg)
        rw [hdx] at this
        exact this
      have cS : ∀ w, W6.grownBy w none → Calls Tryz.prog 18 #[.agg #[.int .i64 m, .string (bs s), .slice a3 xs.length k3], .agg #[.int .i64 m, .string (bs s), .slice a xs.length c]] w fun e w' => e = .returned (.bool true) ∧ w.grownBy w' none := fun w hg => by
        have := dksame_any ((m, s), xs) ((m, s), xs) a3 a k3 c w (L3.out.grown hg) (HX.out.grown (grownBy_trans G6.out hg))
        rw [sameK_self] at this
        exact this
      clear hZ hdx
      cases hq : (A.toList == [111, 107])
      · have he := hor.resolve_left (by rw [hq]; simp)
        cases he
        have cT : ∀ w, W6.grownBy w none → Calls Tryz.prog 18 #[.agg #[.int .i64 m, .string (bs s), .slice a1 xs.length k1], .agg #[.int .i64 m, .string (bs s), .slice a xs.length c]] w fun e w' => e = .returned (.bool true) ∧ w.grownBy w' none := fun w hg => by
          have := dksame_any ((m, s), xs) ((m, s), xs) a1 a k1 c w (L6.out.grown hg) (HX.out.grown (grownBy_trans G6.out hg))
          rw [sameK_self] at this
          exact this
        clear hor
        go_wp2_with (first | (go_at_call 23; (with_reducible refine (cI _ (grownBy_refl _ _)).mono ?_); rintro e w7 ⟨rfl, g7⟩; have G7 := Lib.hid g7; obtain ⟨x0, x1, x2⟩ := (HB6.out.grown g7).three; obtain ⟨y0, y1, y2⟩ := (HA.out.grown (grownBy_trans G6.out g7)).three; obtain ⟨v0, v1, v2⟩ := (ZB.out.grown g7).three; clear g7 cI) | (go_at_call 18; (with_reducible refine (cT _ G7.out).mono ?_); rintro e w8 ⟨rfl, g8⟩; have G8 := Lib.hid (grownBy_trans G7.out g8); obtain ⟨x0, x1, x2⟩ := (HB6.out.grown G8.out).three; obtain ⟨y0, y1, y2⟩ := (HA.out.grown (grownBy_trans G6.out G8.out)).three; obtain ⟨v0, v1, v2⟩ := (ZB.out.grown G8.out).three; clear g8 cT) | (go_at_call 18; (with_reducible refine (cS _ G8.out).mono ?_); rintro e w9 ⟨rfl, g9⟩))
        go_ret
        exact ⟨rfl, below_of (grownBy_trans G1.out (grownBy_trans G6.out (grownBy_trans G8.out g9)))⟩
      · clear hor
        go_wp2_with (first | (go_at_call 23; (with_reducible refine (cI _ (grownBy_refl _ _)).mono ?_); rintro e w7 ⟨rfl, g7⟩; have G7 := Lib.hid g7; obtain ⟨x0, x1, x2⟩ := (HB6.out.grown g7).three; obtain ⟨y0, y1, y2⟩ := (HA.out.grown (grownBy_trans G6.out g7)).three; obtain ⟨v0, v1, v2⟩ := (ZB.out.grown g7).three; clear g7 cI) | (go_at_call 18; (with_reducible refine (cS _ G7.out).mono ?_); rintro e w9 ⟨rfl, g9⟩))
        go_ret
        exact ⟨rfl, below_of (grownBy_trans G1.out (grownBy_trans G6.out (grownBy_trans G7.out g9)))⟩

end Go.Proofs.YtlnffpofbfigaaaGreatDoor

/-
  Lines said to a desk, one after the other; the landed code's DeskSay.
-/
namespace Go.Proofs.YtlnffpofbfigaaaGreatDoor
open Go.RowKit

/-- The desk behind the lines, and the answers. -/
def nextD (d : Dk) : List ByteArray → Dk
  | [] => d
  | s :: L => nextD (lineR d (bl s)).1 L
def saysD (d : Dk) : List ByteArray → List ByteArray
  | [] => []
  | s :: L => (lineR d (bl s)).2 :: saysD (lineR d (bl s)).1 L
def talkR (d : Dk) (L : List ByteArray) : Dk × List ByteArray := if dkB d = true ∧ L.length ≤ 40 then (nextD d L, saysD d L) else (nilDk, [])
theorem nextD_app : ∀ (A B : List ByteArray) (d : Dk), nextD d (A ++ B) = nextD (nextD d A) B
  | [], _, _ => rfl
  | s :: A, B, d => nextD_app A B (lineR d (bl s)).1
theorem saysD_app : ∀ (A B : List ByteArray) (d : Dk), saysD d (A ++ B) = saysD d A ++ saysD (nextD d A) B
  | [], _, _ => rfl
  | s :: A, B, d => by
    show _ :: saysD _ (A ++ B) = _
    rw [saysD_app A B]; rfl
theorem saysD_len : ∀ (A : List ByteArray) (d : Dk), (saysD d A).length = A.length
  | [], _ => rfl
  | s :: A, d => by show (saysD _ A).length + 1 = _; rw [saysD_len A]; rfl
theorem line_ok {d : Dk} (l : List UInt8) (h : dkB d = true) : dkB (lineR d l).1 = true := (line_yes h rfl).1
theorem nextD_ok : ∀ (A : List ByteArray) {d : Dk}, dkB d = true → dkB (nextD d A) = true
  | [], _, h => h
  | s :: A, _, h => nextD_ok A (line_ok (bl s) h)
theorem take_str {L : List ByteArray} {k : Nat} (hk : k < L.length) : L.take (k + 1) = L.take k ++ [L.getD k nilS] := by
  rw [List.take_add_one, List.getD_eq_getElem?_getD]
  simp [hk]
theorem nextD_step (d : Dk) {L : List ByteArray} {k : Nat} (hk : k < L.length) : nextD d (L.take (k + 1)) = (lineR (nextD d (L.take k)) (bl (L.getD k nilS))).1 := by
  rw [take_str hk, nextD_app]; rfl
theorem saysD_step (d : Dk) {L : List ByteArray} {k : Nat} (hk : k < L.length) : saysD d (L.take (k + 1)) = saysD d (L.take k) ++ [(lineR (nextD d (L.take k)) (bl (L.getD k nilS))).2] := by
  rw [take_str hk, saysD_app]; rfl
theorem talkR_no {d : Dk} {L : List ByteArray} (h : ¬ (dkB d = true ∧ L.length ≤ 40)) : talkR d L = (nilDk, []) := by unfold talkR; rw [if_neg h]
theorem talkR_yes {d : Dk} {L : List ByteArray} (h : dkB d = true) (h2 : L.length ≤ 40) : talkR d L = (nextD d L, saysD d L) := by unfold talkR; rw [if_pos ⟨h, h2⟩]

/-- A block of texts, or none. -/
def StrRow (w : World) (row : Option Nat) : Prop := ∀ g, row = some g → ∃ cur, w.heap[g]? = some (.cells cur 9 (0, 0))
theorem strRow_own {w : World} {base : Nat} {v : Value} {n : Nat} {xs : List Value} (h : w.ownsRow base 9 1 v n xs) : StrRow w v.ownBlock := by
  intro g hg
  rcases h.2 with ⟨rfl, _⟩ | ⟨g', cap, cur, rfl, _, hh, _⟩
  · cases hg
  · cases hg; exact ⟨cur, hh⟩
theorem OwnL.sr {w w' : World} {base : Nat} {a : Option Addr} {xs : List Ld} {row : Option Nat} (h : OwnL w base a xs) (hr : StrRow w row) (hg : w.grownBy w' row) : OwnL w' base a xs := by
  refine ⟨h.1, ?_⟩
  rcases h.2 with h | ⟨g, off, cur, ha, hb, hh, hc⟩
  · exact .inl h
  · refine .inr ⟨g, off, cur, ha, hb, (hg.block g (Array.getElem?_eq_some_iff.1 hh).1 fun e => ?_).trans hh, hc⟩
    obtain ⟨cur2, h2⟩ := hr g e.symm
    rw [hh] at h2
    exact absurd h2 (by simp)
theorem CellsAt.sr {w w' : World} {b : Nat} {vs : Array Value} {row : Option Nat} (h : CellsAt w b vs 32) (hr : StrRow w row) (hg : w.grownBy w' row) : CellsAt w' b vs 32 := by
  refine h.kept hg fun e => ?_
  obtain ⟨cur2, h2⟩ := hr b e.symm
  have h1 : w.heap[b]? = some (.cells vs 32 (0, 0)) := h
  rw [h1] at h2
  exact absurd h2 (by simp)
/-- Texts that a call has made. -/
def OwnT (w : World) (base : Nat) (a : Option Addr) (cap : Nat) (L : List ByteArray) : Prop := w.ownsRow base 9 1 (.slice a L.length cap) L.length (L.map Value.string)
def SayPost (r : Dk × List ByteArray) (w : World) (e : Ending) (w' : World) : Prop := ∃ (a : Option Addr) (cap : Nat) (b : Option Addr) (capb : Nat), e = .returned (.tuple #[dkV r.1 a cap, .slice b r.2.length capb]) ∧ OwnL w' w.heap.size a r.1.2 ∧ (a = none → cap = 0) ∧ OwnT w' w.heap.size b capb r.2 ∧ (b = none → capb = 0) ∧ w.grownBy w' none

/-- .. where the answers lie in a block. -/
def SayG (r : Dk × List ByteArray) (w : World) (e : Ending) (w' : World) : Prop := ∃ (a : Option Addr) (cap g capb : Nat), e = .returned (.tuple #[dkV r.1 a cap, .slice (some ⟨g, 0, none⟩) r.2.length capb]) ∧ OwnL w' w.heap.size a r.1.2 ∧ (a = none → cap = 0) ∧ OwnT w' w.heap.size (some ⟨g, 0, none⟩) capb r.2 ∧ w.grownBy w' none
theorem SayG.post {r : Dk × List ByteArray} {w w' : World} {e : Ending} (h : SayG r w e w') : SayPost r w e w' := by
  obtain ⟨a, cap, g, capb, he, ho, hz, ht, hg⟩ := h
  exact ⟨a, cap, some ⟨g, 0, none⟩, capb, he, ho, hz, ht, (fun h => nomatch h), hg⟩

set_option maxRecDepth 8000 in
set_option maxHeartbeats 2000000 in
theorem idsay_bad (m : Int) (s : List UInt8) (xs : List Ld) (L : List ByteArray) (a b : Option Addr) (cap capb : Nat) (w : World) (h : LdsAt w a xs) (hd : dkB ((m, s), xs) = false ∨ (dkB ((m, s), xs) = true ∧ 40 < L.length)) :
    Calls Tryz.prog 25 #[.agg #[.int .i64 m, .string (bs s), .slice a xs.length cap], .slice b L.length capb] w (SayPost (nilDk, []) w) := by
  have g2 : w.grownBy ((w.alloc (.cells #[.int .i64 m, .string (bs s), .slice a xs.length cap] 32)).alloc (.cells #[.int .i64 0, .string ⟨#[]⟩, .slice none 0 0] 32)) none := grownBy_trans (World.grownBy_alloc w _ none) (World.grownBy_alloc _ _ none)
  have hZ := Lib.hid (CellsAt.second w (.cells #[.int .i64 m, .string (bs s), .slice a xs.length cap] 32) #[.int .i64 0, .string ⟨#[]⟩, .slice none 0 0] 32)
  have ck := idesk_any ((m, s), xs) a cap _ (h.grown g2)
  have G2 := Lib.hid g2
  clear h g2
  unfold dkV at ck
  rcases hd with hd | ⟨hd, hl⟩
  · rw [hd] at ck
    go_enter Tryz.func25, Tryz.ntmps25
    go_wp2_with (first | (go_at_call 23; refine ck.mono ?_; rintro e w1 ⟨rfl, hg⟩; obtain ⟨⟨z0, z1, z2⟩, f0, f1, f2⟩ := dk_facts (hZ.out.grown hg)))
    exact bodyPost_ret (v := .tuple #[.agg #[.int .i64 0, .string ⟨#[]⟩, .slice none 0 0], .slice none 0 0]) (resDkB (b := .slice none 0 0) rfl _ rfl rfl ((hZ.out.grown hg).put3 _ _ _)) rfl ⟨none, 0, none, 0, rfl, OwnL.nil _ _ _, fun _ => rfl, World.ownsRow_nil _ _ _ _, fun _ => rfl, put3_grown _ (grownBy_trans G2.out hg) (by omega) _ _ _⟩
  · rw [hd] at ck
    have hll : (40 : Int) < (L.length : Int) := by omega
    go_enter Tryz.func25, Tryz.ntmps25
    go_wp2_with (first | (go_at_call 23; refine ck.mono ?_; rintro e w1 ⟨rfl, hg⟩; obtain ⟨⟨z0, z1, z2⟩, f0, f1, f2⟩ := dk_facts (hZ.out.grown hg)))
    exact bodyPost_ret (v := .tuple #[.agg #[.int .i64 0, .string ⟨#[]⟩, .slice none 0 0], .slice none 0 0]) (resDkB (b := .slice none 0 0) rfl _ rfl rfl ((hZ.out.grown hg).put3 _ _ _)) rfl ⟨none, 0, none, 0, rfl, OwnL.nil _ _ _, fun _ => rfl, World.ownsRow_nil _ _ _ _, fun _ => rfl, put3_grown _ (grownBy_trans G2.out hg) (by omega) _ _ _⟩

theorem zk_1 {W wc : World} (hg : (W.alloc (.cells #[.int .i64 0, .string ⟨#[]⟩, .slice none 0 0] 32)).drew.grownBy wc none) : CellsAt wc W.heap.size #[.int .i64 0, .string ⟨#[]⟩, .slice none 0 0] 32 := (CellsAt.new W _ _).grown (drew_grown hg)
theorem zk_2 {W wc : World} {MC : Array Value} (hg : ((W.alloc (.cells #[.int .i64 0, .string ⟨#[]⟩, .slice none 0 0] 32)).alloc (.cells MC 9)).drew.grownBy wc none) : CellsAt wc W.heap.size #[.int .i64 0, .string ⟨#[]⟩, .slice none 0 0] 32 := (CellsAt.first W _ _ _).grown (drew_grown hg)
theorem zk_3 {W wc : World} {MC : Array Value} (hg : ((W.alloc (.cells MC 9)).alloc (.cells #[.int .i64 0, .string ⟨#[]⟩, .slice none 0 0] 32)).drew.grownBy wc none) : CellsAt wc (W.heap.size + 1) #[.int .i64 0, .string ⟨#[]⟩, .slice none 0 0] 32 := (CellsAt.second W _ _ _).grown (drew_grown hg)
/-- The copy of the desk and the row for the answers. -/
def GotA (w0 W : World) (m : Int) (s : List UInt8) (xs : List Ld) (n : Nat) (pv sv : Value) (wc : World) : Prop :=
  ∃ (c g : Nat) (a : Option Addr) (cap : Nat), pv = .pointer (some ⟨c, 0, none⟩) ∧ sv = .slice (some ⟨g, 0, none⟩) n n ∧ CellsAt wc c #[.int .i64 m, .string (bs s), .slice a xs.length cap] 32 ∧ OwnL wc w0.heap.size a xs ∧ (a = none → cap = 0) ∧ wc.ownsRow w0.heap.size 9 1 (.slice (some ⟨g, 0, none⟩) n n) n (List.replicate n (.string nilS)) ∧ W.grownBy wc none ∧ W.heap.size ≤ c

theorem row_put3 {w : World} {base c : Nat} {v : Value} {n : Nat} {zs : List Value} {x y z : Value} (h : w.ownsRow base 9 1 v n zs) (hB : CellsAt w c #[x, y, z] 32) (p q t : Value) : (((w.setCell ⟨c, 0, none⟩ p).setCell ⟨c, 1, none⟩ q).setCell ⟨c, 2, none⟩ t).ownsRow base 9 1 v n zs := by
  refine h.kept (put3_past w c p q t) (.inr fun e => ?_)
  obtain ⟨cur, h2⟩ := strRow_own h c e
  have h1 : w.heap[c]? = some (.cells #[x, y, z] 32 (0, 0)) := hB
  rw [h1] at h2
  exact absurd h2 (by simp)
/-- A row of n empty texts is made in whatever world. -/
def RowsOf (w0 : World) (n : Nat) (MC : Array Value) : Prop := ∀ X : World, w0.heap.size ≤ X.heap.size → (X.alloc (.cells MC 9)).ownsRow w0.heap.size 9 1 (.slice (some ⟨X.heap.size, 0, none⟩) n n) n (List.replicate n (.string nilS))
theorem rows_up {W : World} {base g g' n : Nat} {zs : List Value} (h : W.ownsRow base 9 1 (.slice (some ⟨g, 0, none⟩) n n) n zs) (e : g = g') : W.ownsRow base 9 1 (.slice (some ⟨g', 0, none⟩) n n) n zs := by rw [← e]; exact h
theorem sizeA (W : World) (o : Obj) : (W.alloc o).heap.size = W.heap.size + 1 := by show (W.heap.push _).size = _; rw [Array.size_push]
theorem put3_size (W : World) (c : Nat) (x y z : Value) : (((W.setCell ⟨c, 0, none⟩ x).setCell ⟨c, 1, none⟩ y).setCell ⟨c, 2, none⟩ z).heap.size = W.heap.size := by simp
theorem gA1 {w0 w1 wc : World} {m : Int} {s : List UInt8} {xs : List Ld} {n : Nat} {a : Option Addr} {cap : Nat} {MC : Array Value} (mk : RowsOf w0 n MC) (G : w0.grownBy w1 none) (ho : OwnL wc w0.heap.size a xs) (hz : a = none → cap = 0) (hg : w1.drew.grownBy wc none) : GotA w0 w1 m s xs n (.pointer (some ⟨wc.heap.size + 1, 0, none⟩)) (.slice (some ⟨wc.heap.size, 0, none⟩) n n) ((wc.alloc (.cells MC 9)).alloc (.cells #[.int .i64 m, .string (bs s), .slice a xs.length cap] 32)) := by
  have h1 : w1.grownBy wc none := drew_grown hg
  have h2 := h1.size
  have h3 := G.size
  have e1 := sizeA w1
  have ec := sizeA wc
  refine ⟨_, _, a, cap, rfl, rfl, CellsAt.second wc _ _ _, ((ho.kept (World.grownBy_alloc _ _ none)).kept (World.grownBy_alloc _ _ none)), hz, World.ownsRow.alloc (mk wc (by omega)) _, grownBy_trans h1 (grownBy_trans (World.grownBy_alloc _ _ none) (World.grownBy_alloc _ _ none)), by omega⟩
theorem gA2 {w0 w1 wc : World} {m : Int} {s : List UInt8} {xs : List Ld} {n : Nat} {a : Option Addr} {cap : Nat} {MC : Array Value} (mk : RowsOf w0 n MC) (G : w0.grownBy w1 none) (ho : OwnL wc w0.heap.size a xs) (hz : a = none → cap = 0) (hg : w1.drew.grownBy wc none) : GotA w0 w1 m s xs n (.pointer (some ⟨wc.heap.size, 0, none⟩)) (.slice (some ⟨wc.heap.size + 1, 0, none⟩) n n) ((wc.alloc (.cells #[.int .i64 m, .string (bs s), .slice a xs.length cap] 32)).alloc (.cells MC 9)) := by
  have h1 : w1.grownBy wc none := drew_grown hg
  have h2 := h1.size
  have h3 := G.size
  have e1 := sizeA w1
  have ec := sizeA wc
  refine ⟨_, _, a, cap, rfl, rfl, CellsAt.first wc _ _ _, ((ho.kept (World.grownBy_alloc _ _ none)).kept (World.grownBy_alloc _ _ none)), hz, rows_up (mk _ (by rw [ec]; omega)) (ec _), grownBy_trans h1 (grownBy_trans (World.grownBy_alloc _ _ none) (World.grownBy_alloc _ _ none)), by omega⟩
theorem gA3 {w0 w1 wc : World} {m : Int} {s : List UInt8} {xs : List Ld} {n : Nat} {a : Option Addr} {cap : Nat} {MC : Array Value} (mk : RowsOf w0 n MC) (G : w0.grownBy w1 none) (ho : OwnL wc w0.heap.size a xs) (hz : a = none → cap = 0) (hg : (w1.alloc (.cells MC 9)).drew.grownBy wc none) : GotA w0 w1 m s xs n (.pointer (some ⟨wc.heap.size, 0, none⟩)) (.slice (some ⟨w1.heap.size, 0, none⟩) n n) (wc.alloc (.cells #[.int .i64 m, .string (bs s), .slice a xs.length cap] 32)) := by
  have h1 : w1.grownBy wc none := grownBy_trans (World.grownBy_alloc _ _ none) (drew_grown hg)
  have h2 := h1.size
  have h3 := G.size
  have e1 := sizeA w1
  have ec := sizeA wc
  refine ⟨_, _, a, cap, rfl, rfl, CellsAt.new wc _ _, (ho.kept (World.grownBy_alloc _ _ none)), hz, World.ownsRow.alloc (World.ownsRow.kept (mk w1 h3) (drew_grown hg) (.inr (by simp [Value.ownBlock]))) _, grownBy_trans h1 (World.grownBy_alloc _ _ none), by omega⟩
theorem gA4 {w0 w1 wc : World} {m : Int} {s : List UInt8} {xs : List Ld} {n : Nat} {a : Option Addr} {cap : Nat} {MC : Array Value} (mk : RowsOf w0 n MC) (G : w0.grownBy w1 none) (ho : OwnL wc w0.heap.size a xs) (hz : a = none → cap = 0) (hg : ((w1.alloc (.cells MC 9)).alloc (.cells #[.int .i64 0, .string ⟨#[]⟩, .slice none 0 0] 32)).drew.grownBy wc none) : GotA w0 w1 m s xs n (.pointer (some ⟨w1.heap.size + 1, 0, none⟩)) (.slice (some ⟨w1.heap.size, 0, none⟩) n n) (((wc.setCell ⟨w1.heap.size + 1, 0, none⟩ (.int .i64 m)).setCell ⟨w1.heap.size + 1, 1, none⟩ (.string (bs s))).setCell ⟨w1.heap.size + 1, 2, none⟩ (.slice a xs.length cap)) := by
  have h1 : w1.grownBy wc none := grownBy_trans (grownBy_trans (World.grownBy_alloc _ _ none) (World.grownBy_alloc _ _ none)) (drew_grown hg)
  have h2 := h1.size
  have h3 := G.size
  have e1 := sizeA w1
  have ec := sizeA wc
  refine ⟨_, _, a, cap, rfl, rfl, (zk_3 hg).put3 _ _ _, ho.put3 ⟨_, zk_3 hg⟩ _ _ _, hz, row_put3 (World.ownsRow.kept (World.ownsRow.alloc (mk w1 h3) _) (drew_grown hg) (.inr (by simp [Value.ownBlock]))) (zk_3 hg) _ _ _, put3_grown _ h1 (by omega) _ _ _, by omega⟩
theorem gA5 {w0 w1 wc : World} {m : Int} {s : List UInt8} {xs : List Ld} {n : Nat} {a : Option Addr} {cap : Nat} {MC : Array Value} (mk : RowsOf w0 n MC) (G : w0.grownBy w1 none) (ho : OwnL wc w0.heap.size a xs) (hz : a = none → cap = 0) (hg : (w1.alloc (.cells #[.int .i64 0, .string ⟨#[]⟩, .slice none 0 0] 32)).drew.grownBy wc none) : GotA w0 w1 m s xs n (.pointer (some ⟨w1.heap.size, 0, none⟩)) (.slice (some ⟨wc.heap.size, 0, none⟩) n n) ((((wc.alloc (.cells MC 9)).setCell ⟨w1.heap.size, 0, none⟩ (.int .i64 m)).setCell ⟨w1.heap.size, 1, none⟩ (.string (bs s))).setCell ⟨w1.heap.size, 2, none⟩ (.slice a xs.length cap)) := by
  have h1 : w1.grownBy wc none := grownBy_trans (World.grownBy_alloc _ _ none) (drew_grown hg)
  have h2 := h1.size
  have h3 := G.size
  have e1 := sizeA w1
  have ec := sizeA wc
  refine ⟨_, _, a, cap, rfl, rfl, ((zk_1 hg).grown (World.grownBy_alloc _ _ none)).put3 _ _ _, ((ho.kept (World.grownBy_alloc _ _ none))).put3 ⟨_, (zk_1 hg).grown (World.grownBy_alloc _ _ none)⟩ _ _ _, hz, row_put3 (mk wc (by omega)) ((zk_1 hg).grown (World.grownBy_alloc _ _ none)) _ _ _, put3_grown _ (grownBy_trans h1 (World.grownBy_alloc _ _ none)) (by omega) _ _ _, by omega⟩
theorem gA6 {w0 w1 wc : World} {m : Int} {s : List UInt8} {xs : List Ld} {n : Nat} {a : Option Addr} {cap : Nat} {MC : Array Value} (mk : RowsOf w0 n MC) (G : w0.grownBy w1 none) (ho : OwnL wc w0.heap.size a xs) (hz : a = none → cap = 0) (hg : (w1.alloc (.cells #[.int .i64 0, .string ⟨#[]⟩, .slice none 0 0] 32)).drew.grownBy wc none) : GotA w0 w1 m s xs n (.pointer (some ⟨w1.heap.size, 0, none⟩)) (.slice (some ⟨wc.heap.size, 0, none⟩) n n) ((((wc.setCell ⟨w1.heap.size, 0, none⟩ (.int .i64 m)).setCell ⟨w1.heap.size, 1, none⟩ (.string (bs s))).setCell ⟨w1.heap.size, 2, none⟩ (.slice a xs.length cap)).alloc (.cells MC 9)) := by
  have h1 : w1.grownBy wc none := grownBy_trans (World.grownBy_alloc _ _ none) (drew_grown hg)
  have h2 := h1.size
  have h3 := G.size
  have e1 := sizeA w1
  have ec := sizeA wc
  refine ⟨_, _, a, cap, rfl, rfl, ((zk_1 hg).put3 _ _ _).grown (World.grownBy_alloc _ _ none), (ho.put3 ⟨_, zk_1 hg⟩ _ _ _).kept (World.grownBy_alloc _ _ none), hz, rows_up (mk _ (by rw [put3_size]; omega)) (put3_size _ _ _ _ _), grownBy_trans (put3_grown _ h1 (by omega) _ _ _) (World.grownBy_alloc _ _ none), by omega⟩
theorem gA7 {w0 w1 wc : World} {m : Int} {s : List UInt8} {xs : List Ld} {n : Nat} {a : Option Addr} {cap : Nat} {MC : Array Value} (mk : RowsOf w0 n MC) (G : w0.grownBy w1 none) (ho : OwnL wc w0.heap.size a xs) (hz : a = none → cap = 0) (hg : ((w1.alloc (.cells #[.int .i64 0, .string ⟨#[]⟩, .slice none 0 0] 32)).alloc (.cells MC 9)).drew.grownBy wc none) : GotA w0 w1 m s xs n (.pointer (some ⟨w1.heap.size, 0, none⟩)) (.slice (some ⟨w1.heap.size + 1, 0, none⟩) n n) (((wc.setCell ⟨w1.heap.size, 0, none⟩ (.int .i64 m)).setCell ⟨w1.heap.size, 1, none⟩ (.string (bs s))).setCell ⟨w1.heap.size, 2, none⟩ (.slice a xs.length cap)) := by
  have h1 : w1.grownBy wc none := grownBy_trans (grownBy_trans (World.grownBy_alloc _ _ none) (World.grownBy_alloc _ _ none)) (drew_grown hg)
  have h2 := h1.size
  have h3 := G.size
  have e1 := sizeA w1
  have ec := sizeA wc
  refine ⟨_, _, a, cap, rfl, rfl, (zk_2 hg).put3 _ _ _, ho.put3 ⟨_, zk_2 hg⟩ _ _ _, hz, row_put3 (World.ownsRow.kept (rows_up (mk (w1.alloc (.cells #[.int .i64 0, .string ⟨#[]⟩, .slice none 0 0] 32)) (by rw [e1]; omega)) (e1 _)) (drew_grown hg) (.inr (by simp [Value.ownBlock]))) (zk_2 hg) _ _ _, put3_grown _ h1 (by omega) _ _ _, by omega⟩

theorem saysD_get : ∀ (L : List ByteArray) (d : Dk) (i : Nat), i < L.length → (saysD d L).getD i nilS = (lineR (nextD d (L.take i)) (bl (L.getD i nilS))).2
  | [], _, _, h => absurd h (by simp)
  | _ :: _, _, 0, _ => rfl
  | s :: L, d, i + 1, h => saysD_get L (lineR d (bl s)).1 i (by simpa using h)
theorem getD_mem_str {L : List ByteArray} {i : Nat} (h : i < L.length) : L.getD i nilS ∈ L := by
  rw [List.getD_eq_getElem?_getD, List.getElem?_eq_getElem h]
  exact List.getElem_mem h
/-- The desk between the lines, and the answers so far. -/
def SayI (w0 : World) (c g : Nat) (d : Dk) (L : List ByteArray) (iv : Value) (wr : World) : Prop :=
  ∃ (i : Nat) (e : Dk) (a : Option Addr) (cap : Nat) (vs : List Value), i ≤ L.length ∧ iv = .int .i64 i ∧ nextD d (L.take i) = e ∧ dkB e = true ∧ CellsAt wr c #[.int .i64 e.1.1, .string (bs e.1.2), .slice a e.2.length cap] 32 ∧ OwnL wr w0.heap.size a e.2 ∧ (a = none → cap = 0) ∧ wr.ownsRow w0.heap.size 9 1 (.slice (some ⟨g, 0, none⟩) L.length L.length) L.length vs ∧ (∀ j, j < i → vs[j]? = some (.string ((saysD d L).getD j nilS))) ∧ CellsAt wr (w0.heap.size + 1) #[.int .i64 0, .string ⟨#[]⟩, .slice none 0 0] 32 ∧ w0.grownBy wr none ∧ w0.heap.size + 1 < c

set_option maxRecDepth 8000 in
set_option maxHeartbeats 8000000 in
theorem idsay_ok (m : Int) (s : List UInt8) (xs : List Ld) (L : List ByteArray) (a b : Option Addr) (cap capb : Nat) (w : World) (h : LdsAt w a xs) (h0 : a = none → cap = 0) (hl : StrsAt w b L) (ht : ∀ x ∈ L, x.size ≤ 2097152) (hd : dkB ((m, s), xs) = true) (hn : L.length ≤ 40) (hT : WdAt w ∧ ErAt w) :
    Calls Tryz.prog 25 #[.agg #[.int .i64 m, .string (bs s), .slice a xs.length cap], .slice b L.length capb] w (SayG (nextD ((m, s), xs) L, saysD ((m, s), xs) L) w) := by
  have g2 : w.grownBy ((w.alloc (.cells #[.int .i64 m, .string (bs s), .slice a xs.length cap] 32)).alloc (.cells #[.int .i64 0, .string ⟨#[]⟩, .slice none 0 0] 32)) none := grownBy_trans (World.grownBy_alloc w _ none) (World.grownBy_alloc _ _ none)
  have hZ := Lib.hid (CellsAt.second w (.cells #[.int .i64 m, .string (bs s), .slice a xs.length cap] 32) #[.int .i64 0, .string ⟨#[]⟩, .slice none 0 0] 32)
  have hD := Lib.hid (CellsAt.first w (.cells #[.int .i64 0, .string ⟨#[]⟩, .slice none 0 0] 32) #[.int .i64 m, .string (bs s), .slice a xs.length cap] 32)
  have ck := idesk_any ((m, s), xs) a cap _ (h.grown g2)
  rw [hd] at ck
  unfold dkV at ck
  have hx8 : xs.length ≤ 9 := by have := (dkB_of hd).2.2; change xs.length ≤ 8 at this; omega
  have cc : ∀ W, LdsAt W a xs → Calls Tryz.prog 50 #[.agg #[.int .i64 m, .string (bs s), .slice a xs.length cap]] W fun e w' => ∃ a' cap', e = .returned (.agg #[.int .i64 m, .string (bs s), .slice a' xs.length cap']) ∧ Own2 w' W.heap.size a' cap' xs ∧ W.grownBy w' none := fun W hW => copied_any ((m, s), xs) a cap W hW h0 hx8
  have HX := Lib.hid (h.grown g2)
  have HL := Lib.hid hl
  have HT := Lib.hid hT
  have HS := Lib.hid ht
  have HD := Lib.hid hd
  have G2 := Lib.hid g2
  have hll : ¬ ((40 : Int) < (L.length : Int)) := by omega
  clear h g2 hl ht hd h0 hT
  go_enter Tryz.func25, Tryz.ntmps25
  go_wp2_with fail
  generalize (w.alloc (.cells #[.int .i64 m, .string (bs s), .slice a xs.length cap] 32)).alloc (.cells #[.int .i64 0, .string ⟨#[]⟩, .slice none 0 0] 32) = W at *
  refine ck.mono ?_
  rintro e w1 ⟨rfl, hg1⟩
  obtain ⟨d0, d1, d2⟩ := (hD.out.grown hg1).three
  clear ck
  go_wp2_with fail
  obtain ⟨MC, hMC⟩ : ∃ MC, MC = madeCells #[Value.string nilS] (L.length * 1) := ⟨_, rfl⟩
  have mk : ∀ W : World, (Instr.makeSlice 49 (.int .i64 (L.length : Int)) (.int .i64 (L.length : Int))).run Tryz.prog W = .ok (.slice (some ⟨W.heap.size, 0, none⟩) L.length L.length) (W.alloc (.cells MC 9)) := fun W => by
    obtain ⟨i0, hi, hz0, hz1, hz2⟩ := info_parts infoStr
    have := run_make (P := Tryz.prog) W 49 9 i0 (.string nilS) Tryz.underlying49 hi hz0 .i64 .i64 (L.length : Int) (L.length : Int) (by omega) (Int.le_refl _) (by rw [hz2]; omega) (by omega)
    rw [hz1, Int.toNat_natCast] at this
    rw [hMC]
    exact this
  have hMs : MC.size = L.length := by rw [hMC, ← Array.length_toList, Nat.mul_one, toList_madeCells_one, List.length_replicate]
  have hMl : MC.toList = List.replicate L.length (.string nilS) := by rw [hMC, Nat.mul_one, toList_madeCells_one]
  have MKR : Hid (RowsOf w L.length MC) := Lib.hid fun X hX => by
    have := World.ownsRow_lit (e := 9) (size := 1) (base := w.heap.size) X MC L.length hX (by unfold maxLen; omega) (by rw [hMs, Nat.mul_one])
    rw [hMl] at this
    exact this
  have G1 := Lib.hid (grownBy_trans G2.out hg1)
  have HX1 := Lib.hid (HX.out.grown hg1)
  have hD1 := Lib.hid (hD.out.grown hg1)
  have hZ1 := Lib.hid (hZ.out.grown hg1)
  have e0 : ∀ o, (w1.alloc o).cell? ⟨w.heap.size, 0, none⟩ = some (.int .i64 m) ∧ (w1.alloc o).cell? ⟨w.heap.size, 1, none⟩ = some (.string (bs s)) ∧ (w1.alloc o).cell? ⟨w.heap.size, 2, none⟩ = some (.slice a xs.length cap) := fun o => (hD1.out.grown (World.grownBy_alloc w1 o none)).three
  have e1 : ∀ o o', ((w1.alloc o).alloc o').cell? ⟨w.heap.size, 0, none⟩ = some (.int .i64 m) ∧ ((w1.alloc o).alloc o').cell? ⟨w.heap.size, 1, none⟩ = some (.string (bs s)) ∧ ((w1.alloc o).alloc o').cell? ⟨w.heap.size, 2, none⟩ = some (.slice a xs.length cap) := fun o o' => (hD1.out.grown (grownBy_trans (World.grownBy_alloc w1 o none) (World.grownBy_alloc _ o' none))).three
  have z0 := fun (W : World) o => (CellsAt.first W o #[.int .i64 0, .string ⟨#[]⟩, .slice none 0 0] 32)
  have k0 := fun (W : World) o => (z0 W o).three.1
  have k1 := fun (W : World) o => (z0 W o).three.2.1
  have k2 := fun (W : World) o => (z0 W o).three.2.2
  have l0 := fun (W : World) o => (z0 W o).frozen 0
  have l1 := fun (W : World) o => (z0 W o).frozen 1
  have l2 := fun (W : World) o => (z0 W o).frozen 2
  have m0 := fun o => (e0 o).1
  have m1 := fun o => (e0 o).2.1
  have m2 := fun o => (e0 o).2.2
  have n0 := fun o o' => (e1 o o').1
  have n1 := fun o o' => (e1 o o').2.1
  have n2 := fun o o' => (e1 o o').2.2
  have ca : ∀ W, w1.grownBy W none → Calls Tryz.prog 50 #[.agg #[.int .i64 m, .string (bs s), .slice a xs.length cap]] W fun e w' => ∃ a' cap', e = .returned (.agg #[.int .i64 m, .string (bs s), .slice a' xs.length cap']) ∧ OwnL w' w.heap.size a' xs ∧ (a' = none → cap' = 0) ∧ W.grownBy w' none := fun W hW => (cc W (HX1.out.grown hW)).mono fun e w' ⟨a', c', h1, h2, h3⟩ => ⟨a', c', h1, h2.l.mono (grownBy_trans G1.out hW).size, h2.bare, h3⟩
  clear hMC hMs hMl hg1 e0 e1 z0 cc
  go_cut [6, 7] from 19 to 23 (fun pv sv wc => GotA w w1 m s xs L.length pv sv wc)
  case first =>
    go_region_with (first | (go_at_call 50; (first | (with_reducible refine (ca _ (grownBy_drew (grownBy_refl _ _))).mono ?_) | (with_reducible refine (ca _ (grownBy_drew (World.grownBy_alloc _ _ none))).mono ?_) | (with_reducible refine (ca _ (grownBy_drew (grownBy_trans (World.grownBy_alloc _ _ none) (World.grownBy_alloc _ _ none)))).mono ?_)); rintro e wc ⟨a2, c2, rfl, ho, hz2, hgc⟩; (first | (with_reducible have ZK := Lib.hid (zk_3 hgc); obtain ⟨⟨p0, p1, p2⟩, q0, q1, q2⟩ := dk_facts ZK.out) | (with_reducible have ZK := Lib.hid (zk_2 hgc); obtain ⟨⟨p0, p1, p2⟩, q0, q1, q2⟩ := dk_facts ZK.out) | (with_reducible have ZK := Lib.hid (zk_1 hgc); obtain ⟨⟨p0, p1, p2⟩, q0, q1, q2⟩ := dk_facts ZK.out; have ZA := (fun o => dk_facts (ZK.out.grown (World.grownBy_alloc wc o none))); have r0 := (fun o => (ZA o).1.1); have r1 := (fun o => (ZA o).1.2.1); have r2 := (fun o => (ZA o).1.2.2); have t0 := (fun o => (ZA o).2.1); have t1 := (fun o => (ZA o).2.2.1); have t2 := (fun o => (ZA o).2.2.2); clear ZA) | skip)))
    all_goals go_wp2_with fail
    all_goals go_meet
    all_goals first | with_reducible exact gA1 MKR.out G1.out ho hz2 hgc | with_reducible exact gA2 MKR.out G1.out ho hz2 hgc | with_reducible exact gA3 MKR.out G1.out ho hz2 hgc | with_reducible exact gA4 MKR.out G1.out ho hz2 hgc | with_reducible exact gA5 MKR.out G1.out ho hz2 hgc | with_reducible exact gA6 MKR.out G1.out ho hz2 hgc | with_reducible exact gA7 MKR.out G1.out ho hz2 hgc | (trace_state; fail)
  case rest =>
    obtain ⟨c, g, a2, c2, rfl, rfl, hC, ho, hz, hrow, hgc, hcb⟩ := hcut
    have hZc := hZ1.out.grown hgc
    have hlt := hZ1.out.lt
    have hInit : Hid (SayI w c g ((m, s), xs) L (.int .i64 ((0 : Nat) : Int)) wc) := ⟨0, ((m, s), xs), a2, c2, _, by omega, rfl, rfl, HD.out, hC, ho, hz, hrow, fun j hj => absurd hj (by omega), hZc, grownBy_trans G1.out hgc, by omega⟩
    clear hC ho hz hrow hgc hZc
    clear hZ1 hD1 HX1
    go_wp2_with fail
    go_loopw [26] (fun iv wr => SayI w c g ((m, s), xs) L iv wr) (fun iv _ => L.length - (intOf iv).toNat)
    case atStart => exact hInit.out
    case round =>
      obtain ⟨i, ⟨⟨p, u⟩, ys⟩, ae, ce, vs, hi, rfl, hrun, hde, hB, ho, hz, hrow, hvs, hZr, hgr, hb⟩ := hrel
      have HB := Lib.hid hB
      have HO := Lib.hid ho
      have HZr := Lib.hid hZr
      have HG := Lib.hid hgr
      have HDE := Lib.hid hde
      have HR := Lib.hid hrun
      have HRW := Lib.hid hrow
      have HV := Lib.hid hvs
      clear hB ho hZr hgr hde hrun hrow hvs
      obtain ⟨⟨y0, y1, y2⟩, v0, v1, v2⟩ := dk_facts HB.out
      by_cases hlt2 : i < L.length
      · rcases (HL.out.grown HG.out).2 with q | ⟨bx, ox, rfl, _, hcx⟩
        · rw [q] at hlt2; simp at hlt2
        have k0 := hcx i hlt2
        clear hcx
        have hsz := HS.out _ (getD_mem_str hlt2)
        have hnx := nextD_step ((m, s), xs) hlt2
        have hsy := saysD_get L ((m, s), xs) i hlt2
        rw [HR.out] at hnx hsy
        obtain ⟨X, hX⟩ : ∃ X, X = L.getD i nilS := ⟨_, rfl⟩
        rw [← hX] at k0 hsz hnx hsy
        clear hX
        obtain ⟨⟨⟨⟨p2, u2⟩, ys2⟩, A⟩, hR⟩ : ∃ R, R = lineR ((p, u), ys) (bl X) := ⟨_, rfl⟩
        rw [← hR] at hnx hsy
        have HNX := Lib.hid hnx
        have HSY := Lib.hid hsy
        have HD2 := Lib.hid (line_yes HDE.out hR.symm).1
        have cd : ∀ W, LdsAt W ae ys → WdAt W ∧ ErAt W → Calls Tryz.prog 14 #[.agg #[.int .i64 p, .string (bs u), .slice ae ys.length ce], .string X] W fun e w' => ∃ a' cap', e = .returned (.tuple #[.agg #[.int .i64 p2, .string (bs u2), .slice a' ys2.length cap'], .string A]) ∧ OwnL w' W.heap.size a' ys2 ∧ (a' = none → cap' = 0) ∧ W.grownBy w' none := fun W hW hT => by
          have := idl_any ((p, u), ys) (bl X) ae ce W (by rw [← bl_size]; exact hsz) hW hz hT
          rw [← hR] at this
          exact this
        clear hR hsz hnx hsy
        go_wp2_with fail
        refine (cd _ HO.out.at ⟨HT.out.1.grown HG.out, HT.out.2.grown HG.out⟩).mono ?_
        rintro e w3 ⟨a3, c3, rfl, o3, z3, hg3⟩
        have HB4 := Lib.hid (HB.out.grown hg3)
        have HZ4 := Lib.hid (HZr.out.grown hg3)
        have O4 := Lib.hid (o3.mono (base' := w.heap.size) HG.out.size)
        have G4 := Lib.hid (grownBy_trans HG.out hg3)
        have R4 := Lib.hid (row_put3 (World.ownsRow.kept HRW.out hg3 (.inr (by simp [Value.ownBlock]))) HB4.out (.int .i64 p2) (.string (bs u2)) (.slice a3 ys2.length c3))
        obtain ⟨⟨y0, y1, y2⟩, v0, v1, v2⟩ := dk_facts HB4.out
        have hfr := World.ownsRow.frozenAt R4.out i
        have hce := World.ownsRow.cellAt R4.out i (by omega)
        have hxl := R4.out.1
        rw [List.getElem?_eq_getElem (by omega)] at hce
        have GP := Lib.hid (put3_grown c G4.out (by omega) (.int .i64 p2) (.string (bs u2)) (.slice a3 ys2.length c3))
        have OP := Lib.hid (O4.out.put3 ⟨_, HB4.out⟩ (.int .i64 p2) (.string (bs u2)) (.slice a3 ys2.length c3))
        have ZP := Lib.hid (HZ4.out.kept (put3_past w3 c (.int .i64 p2) (.string (bs u2)) (.slice a3 ys2.length c3)) (by simp; omega))
        have BP := Lib.hid (HB4.out.put3 (.int .i64 p2) (.string (bs u2)) (.slice a3 ys2.length c3))
        have hst := Lib.hid (World.ownsRow.stored R4.out i (.string A))
        have hg5 := Lib.hid (grownBy_row GP.out R4.out (Nat.le_refl _) hst.out.2)
        have SR := Lib.hid (strRow_own R4.out)
        have hv2 : Hid (∀ j, j < i + 1 → (vs.set i (.string A))[j]? = some (.string ((saysD ((m, s), xs) L).getD j nilS))) := Lib.hid fun j hj => by
          by_cases e : j = i
          · subst e; rw [List.getElem?_set_self (by omega), HSY.out]
          · rw [List.getElem?_set_ne (by omega)]; exact HV.out j (by omega)
        clear o3 hg3 cd k0
        go_wp2_with fail
        go_roundw
        case rel => exact ⟨i + 1, ((p2, u2), ys2), a3, c3, _, by omega, by go_num, HNX.out, HD2.out, BP.out.sr SR.out hst.out.2, OP.out.sr SR.out hst.out.2, z3, hst.out.1, hv2.out, ZP.out.sr SR.out hst.out.2, hg5.out, hb⟩
        case measure => simp [intOf]; omega
      · obtain rfl : i = L.length := by omega
        have e := HR.out
        rw [List.take_length] at e
        obtain ⟨⟨z0, z1, z2⟩, f0, f1, f2⟩ := dk_facts HZr.out
        have F := Lib.hid (HZr.out.put3 (.int .i64 p) (.string (bs u)) (.slice ae ys.length ce))
        have hvv : vs = (saysD ((m, s), xs) L).map Value.string := by
          refine List.ext_getElem? fun j => ?_
          by_cases hj : j < L.length
          · rw [HV.out j hj, List.getElem?_map, List.getD_eq_getElem?_getD, List.getElem?_eq_getElem (by rw [saysD_len]; exact hj)]
            rfl
          · rw [List.getElem?_eq_none (by have := HRW.out.1; omega), List.getElem?_eq_none (by rw [List.length_map, saysD_len]; omega)]
        have P : Hid (SayG (nextD ((m, s), xs) L, saysD ((m, s), xs) L) w (.returned (.tuple #[.agg #[.int .i64 p, .string (bs u), .slice ae ys.length ce], .slice (some ⟨g, 0, none⟩) L.length L.length])) (((wr.setCell ⟨w.heap.size + 1, 0, none⟩ (.int .i64 p)).setCell ⟨w.heap.size + 1, 1, none⟩ (.string (bs u))).setCell ⟨w.heap.size + 1, 2, none⟩ (.slice ae ys.length ce))) := by
          rw [e]
          refine ⟨ae, ce, g, L.length, by rw [saysD_len]; rfl, HO.out.put3 ⟨_, HZr.out⟩ _ _ _, hz, ?_, put3_grown _ HG.out (by omega) _ _ _⟩
          unfold OwnT
          rw [saysD_len, ← hvv]
          exact row_put3 HRW.out HZr.out _ _ _
        clear e hvv
        go_wp2_with fail
        exact bodyPost_ret (v := .tuple #[.agg #[.int .i64 p, .string (bs u), .slice ae ys.length ce], .slice (some ⟨g, 0, none⟩) L.length L.length]) (resDkB (b := .slice (some ⟨g, 0, none⟩) L.length L.length) rfl _ rfl rfl F.out) rfl P.out

theorem idsay_any (d : Dk) (L : List ByteArray) (a b : Option Addr) (cap capb : Nat) (w : World) (h : LdsAt w a d.2) (h0 : a = none → cap = 0) (hl : StrsAt w b L) (ht : ∀ x ∈ L, x.size ≤ 2097152) (hT : WdAt w ∧ ErAt w) :
    Calls Tryz.prog 25 #[dkV d a cap, .slice b L.length capb] w (SayPost (talkR d L) w) := by
  obtain ⟨⟨m, s⟩, xs⟩ := d
  by_cases hd : dkB ((m, s), xs) = true ∧ L.length ≤ 40
  · rw [talkR_yes hd.1 hd.2]
    exact (idsay_ok m s xs L a b cap capb w h h0 hl ht hd.1 hd.2 hT).mono fun _ _ q => q.post
  · rw [talkR_no hd]
    refine idsay_bad m s xs L a b cap capb w h ?_
    cases hq : dkB ((m, s), xs)
    · exact .inl rfl
    · exact .inr ⟨rfl, Nat.lt_of_not_le fun q => hd ⟨hq, q⟩⟩

end Go.Proofs.YtlnffpofbfigaaaGreatDoor

/-
  Lines said to a desk, one after the other: the model's DeskSay.
-/
namespace Go.Proofs.YtlnffpofbfigaaaGreatDoor
open Go.RowKit

set_option maxRecDepth 8000 in
set_option maxHeartbeats 2000000 in
theorem sdsay_bad (m : Int) (s : List UInt8) (xs : List Ld) (L : List ByteArray) (a b : Option Addr) (cap capb : Nat) (w : World) (h : LdsAt w a xs) (hd : dkB ((m, s), xs) = false ∨ (dkB ((m, s), xs) = true ∧ 40 < L.length)) :
    Calls Tryz.prog 26 #[.agg #[.int .i64 m, .string (bs s), .slice a xs.length cap], .slice b L.length capb] w (SayPost (nilDk, []) w) := by
  have g2 : w.grownBy ((w.alloc (.cells #[.int .i64 m, .string (bs s), .slice a xs.length cap] 32)).alloc (.cells #[.int .i64 0, .string ⟨#[]⟩, .slice none 0 0] 32)) none := grownBy_trans (World.grownBy_alloc w _ none) (World.grownBy_alloc _ _ none)
  have hZ := Lib.hid (CellsAt.second w (.cells #[.int .i64 m, .string (bs s), .slice a xs.length cap] 32) #[.int .i64 0, .string ⟨#[]⟩, .slice none 0 0] 32)
  have gO := World.grownBy_alloc ((w.alloc (.cells #[.int .i64 m, .string (bs s), .slice a xs.length cap] 32)).alloc (.cells #[.int .i64 0, .string ⟨#[]⟩, .slice none 0 0] 32)) (.cells #[] 9) none
  have hO : (((w.alloc (.cells #[.int .i64 m, .string (bs s), .slice a xs.length cap] 32)).alloc (.cells #[.int .i64 0, .string ⟨#[]⟩, .slice none 0 0] 32)).alloc (.cells #[] 9)).ownsRow w.heap.size 9 1 (.slice (some ⟨w.heap.size + 1 + 1, 0, none⟩) 0 0) 0 [] := by
    have := World.ownsRow_lit (e := 9) (size := 1) (base := w.heap.size) ((w.alloc (.cells #[.int .i64 m, .string (bs s), .slice a xs.length cap] 32)).alloc (.cells #[.int .i64 0, .string ⟨#[]⟩, .slice none 0 0] 32)) #[] 0 g2.size (by unfold maxLen; omega) rfl
    rw [size2] at this
    exact this
  replace hZ := Lib.hid (hZ.out.grown gO)
  replace g2 := grownBy_trans g2 gO
  have ck := sdesk_is ((m, s), xs) a cap _ (h.grown g2)
  have G2 := Lib.hid g2
  clear h g2 gO
  unfold dkV at ck
  rcases hd with hd | ⟨hd, hl⟩
  · rw [hd] at ck
    go_enter Tryz.func26, Tryz.ntmps26
    go_wp2_with (first | (go_at_call 13; refine ck.mono ?_; rintro e w1 ⟨rfl, hg⟩; obtain ⟨⟨z0, z1, z2⟩, f0, f1, f2⟩ := dk_facts (hZ.out.grown hg)))
    exact bodyPost_ret (v := .tuple #[.agg #[.int .i64 0, .string ⟨#[]⟩, .slice none 0 0], .slice (some ⟨w.heap.size + 1 + 1, 0, none⟩) 0 0]) (resDkB (b := .slice (some ⟨w.heap.size + 1 + 1, 0, none⟩) 0 0) rfl _ rfl rfl ((hZ.out.grown hg).put3 _ _ _)) rfl ⟨none, 0, some ⟨w.heap.size + 1 + 1, 0, none⟩, 0, rfl, OwnL.nil _ _ _, fun _ => rfl, row_put3 (World.ownsRow.kept hO hg (.inr (by simp [Value.ownBlock]))) (hZ.out.grown hg) _ _ _, (fun h => nomatch h), put3_grown _ (grownBy_trans G2.out hg) (by omega) _ _ _⟩
  · rw [hd] at ck
    have hll : (40 : Int) < (L.length : Int) := by omega
    go_enter Tryz.func26, Tryz.ntmps26
    go_wp2_with (first | (go_at_call 13; refine ck.mono ?_; rintro e w1 ⟨rfl, hg⟩; obtain ⟨⟨z0, z1, z2⟩, f0, f1, f2⟩ := dk_facts (hZ.out.grown hg)))
    exact bodyPost_ret (v := .tuple #[.agg #[.int .i64 0, .string ⟨#[]⟩, .slice none 0 0], .slice (some ⟨w.heap.size + 1 + 1, 0, none⟩) 0 0]) (resDkB (b := .slice (some ⟨w.heap.size + 1 + 1, 0, none⟩) 0 0) rfl _ rfl rfl ((hZ.out.grown hg).put3 _ _ _)) rfl ⟨none, 0, some ⟨w.heap.size + 1 + 1, 0, none⟩, 0, rfl, OwnL.nil _ _ _, fun _ => rfl, row_put3 (World.ownsRow.kept hO hg (.inr (by simp [Value.ownBlock]))) (hZ.out.grown hg) _ _ _, (fun h => nomatch h), put3_grown _ (grownBy_trans G2.out hg) (by omega) _ _ _⟩

theorem lastS5 {a b c d e : Prop} (h : a ∧ b ∧ c ∧ d ∧ e) : e := h.2.2.2.2
theorem sizeS5 {a b c d : Prop} {W W' : World} {row : Option Nat} (h : a ∧ b ∧ c ∧ d ∧ W.grownBy W' row) : W.heap.size ≤ W'.heap.size := h.2.2.2.2.size
theorem rowT_kept {w w' : World} {base n : Nat} {v : Value} {zs : List Value} (h : w.ownsRow base 9 1 v n zs) (hg : w.grownBy w' none) : w'.ownsRow base 9 1 v n zs := h.kept hg (by cases v.ownBlock <;> simp)
theorem rowT_shape {w : World} {base n : Nat} {v : Value} {zs : List Value} (h : w.ownsRow base 9 1 v n zs) : ∃ b cap, v = .slice b n cap ∧ (b = none → cap = 0) := by
  rcases h.2 with ⟨rfl, rfl⟩ | ⟨g, cap, cur, rfl, _⟩
  · exact ⟨none, 0, rfl, fun _ => rfl⟩
  · exact ⟨_, cap, rfl, fun h => nomatch h⟩
/-- The desk between the lines, and the answers so far, as the model keeps them. -/
def SayJ (w0 : World) (c : Nat) (d : Dk) (L : List ByteArray) (iv ov : Value) (wr : World) : Prop :=
  ∃ (i : Nat) (e : Dk) (a : Option Addr) (cap : Nat), i ≤ L.length ∧ iv = .int .i64 i ∧ nextD d (L.take i) = e ∧ dkB e = true ∧ CellsAt wr c #[.int .i64 e.1.1, .string (bs e.1.2), .slice a e.2.length cap] 32 ∧ OwnL wr w0.heap.size a e.2 ∧ (a = none → cap = 0) ∧ wr.ownsRow w0.heap.size 9 1 ov i ((saysD d (L.take i)).map Value.string) ∧ CellsAt wr (w0.heap.size + 1) #[.int .i64 0, .string ⟨#[]⟩, .slice none 0 0] 32 ∧ w0.grownBy wr none ∧ w0.heap.size + 1 < c

set_option maxRecDepth 8000 in
set_option maxHeartbeats 8000000 in
theorem sdsay_ok (m : Int) (s : List UInt8) (xs : List Ld) (L : List ByteArray) (a b : Option Addr) (cap capb : Nat) (w : World) (h : LdsAt w a xs) (h0 : a = none → cap = 0) (hl : StrsAt w b L) (ht : ∀ x ∈ L, x.size ≤ 2097152) (hd : dkB ((m, s), xs) = true) (hn : L.length ≤ 40) :
    Calls Tryz.prog 26 #[.agg #[.int .i64 m, .string (bs s), .slice a xs.length cap], .slice b L.length capb] w (SayPost (nextD ((m, s), xs) L, saysD ((m, s), xs) L) w) := by
  have g2 : w.grownBy ((w.alloc (.cells #[.int .i64 m, .string (bs s), .slice a xs.length cap] 32)).alloc (.cells #[.int .i64 0, .string ⟨#[]⟩, .slice none 0 0] 32)) none := grownBy_trans (World.grownBy_alloc w _ none) (World.grownBy_alloc _ _ none)
  have hZ := Lib.hid (CellsAt.second w (.cells #[.int .i64 m, .string (bs s), .slice a xs.length cap] 32) #[.int .i64 0, .string ⟨#[]⟩, .slice none 0 0] 32)
  have hD := Lib.hid (CellsAt.first w (.cells #[.int .i64 0, .string ⟨#[]⟩, .slice none 0 0] 32) #[.int .i64 m, .string (bs s), .slice a xs.length cap] 32)
  have gO := World.grownBy_alloc ((w.alloc (.cells #[.int .i64 m, .string (bs s), .slice a xs.length cap] 32)).alloc (.cells #[.int .i64 0, .string ⟨#[]⟩, .slice none 0 0] 32)) (.cells #[] 9) none
  have hO : (((w.alloc (.cells #[.int .i64 m, .string (bs s), .slice a xs.length cap] 32)).alloc (.cells #[.int .i64 0, .string ⟨#[]⟩, .slice none 0 0] 32)).alloc (.cells #[] 9)).ownsRow w.heap.size 9 1 (.slice (some ⟨w.heap.size + 1 + 1, 0, none⟩) 0 0) 0 [] := by
    have := World.ownsRow_lit (e := 9) (size := 1) (base := w.heap.size) ((w.alloc (.cells #[.int .i64 m, .string (bs s), .slice a xs.length cap] 32)).alloc (.cells #[.int .i64 0, .string ⟨#[]⟩, .slice none 0 0] 32)) #[] 0 g2.size (by unfold maxLen; omega) rfl
    rw [size2] at this
    exact this
  replace hZ := Lib.hid (hZ.out.grown gO)
  replace g2 := grownBy_trans g2 gO
  replace hD := Lib.hid (hD.out.grown gO)
  have ck := sdesk_is ((m, s), xs) a cap _ (h.grown g2)
  rw [hd] at ck
  unfold dkV at ck
  have hx8 : xs.length ≤ 9 := by have := (dkB_of hd).2.2; change xs.length ≤ 8 at this; omega
  have cc : ∀ W, LdsAt W a xs → Calls Tryz.prog 60 #[.agg #[.int .i64 m, .string (bs s), .slice a xs.length cap]] W fun e w' => ∃ a' cap', e = .returned (.agg #[.int .i64 m, .string (bs s), .slice a' xs.length cap']) ∧ Own2 w' W.heap.size a' cap' xs ∧ W.grownBy w' none := fun W hW => scopy_any ((m, s), xs) a cap W hW h0 hx8
  have HX := Lib.hid (h.grown g2)
  have HL := Lib.hid hl
  have HS := Lib.hid ht
  have HD := Lib.hid hd
  have G2 := Lib.hid g2
  have hll : ¬ ((40 : Int) < (L.length : Int)) := by omega
  clear h g2 hl ht hd h0 gO
  go_enter Tryz.func26, Tryz.ntmps26
  go_wp2_with fail
  generalize ((w.alloc (.cells #[.int .i64 m, .string (bs s), .slice a xs.length cap] 32)).alloc (.cells #[.int .i64 0, .string ⟨#[]⟩, .slice none 0 0] 32)).alloc (.cells #[] 9) = W at *
  refine ck.mono ?_
  rintro e w1 ⟨rfl, hg1⟩
  obtain ⟨d0, d1, d2⟩ := (hD.out.grown hg1).three
  clear ck
  go_wp2_with fail
  refine (cc _ (HX.out.grown hg1)).mono ?_
  rintro e w2 ⟨a2, c2, rfl, ho, hg2⟩
  have g02 := grownBy_trans G2.out (grownBy_trans hg1 hg2)
  have hA := CellsAt.new w2 #[.int .i64 m, .string (bs s), .slice a2 xs.length c2] 32
  have gA := World.grownBy_alloc w2 (.cells #[.int .i64 m, .string (bs s), .slice a2 xs.length c2] 32) none
  have s1 : w.heap.size ≤ w1.heap.size := (grownBy_trans G2.out hg1).size
  have hZ2 := (hZ.out.grown (grownBy_trans hg1 hg2)).grown gA
  have hlt := (hZ.out.grown (grownBy_trans hg1 hg2)).lt
  have hrow := World.ownsRow.kept hO (grownBy_trans (grownBy_trans hg1 hg2) gA) (.inr (by simp [Value.ownBlock]))
  have hInit : Hid (SayJ w w2.heap.size ((m, s), xs) L (.int .i64 ((0 : Nat) : Int)) (.slice (some ⟨w.heap.size + 1 + 1, 0, none⟩) 0 0) (w2.alloc (.cells #[.int .i64 m, .string (bs s), .slice a2 xs.length c2] 32))) := ⟨0, ((m, s), xs), a2, c2, by omega, rfl, by rw [List.take_zero]; rfl, HD.out, hA, (ho.kept gA).l.mono s1, (ho.kept gA).bare, by rw [List.take_zero]; exact hrow, hZ2, grownBy_trans g02 gA, hlt⟩
  clear ho hg1 hg2 g02 gA s1 hZ2 hA cc d0 d1 d2 hrow hO
  go_wp2_with fail
  generalize w2.alloc (.cells #[.int .i64 m, .string (bs s), .slice a2 xs.length c2] 32) = W2 at *
  generalize w2.heap.size = c at *
  obtain ⟨i0, hi0, hz0, hz1, hz2⟩ := info_parts infoTx
  go_loopw [8, 6] (fun iv ov wr => SayJ w c ((m, s), xs) L iv ov wr) (fun iv _ _ => L.length - (intOf iv).toNat)
  case atStart => exact hInit.out
  case round =>
    obtain ⟨i, ⟨⟨p, u⟩, ys⟩, ae, ce, hi, rfl, hrun, hde, hB, ho, hz, hrow, hZr, hgr, hb⟩ := hrel
    have HB := Lib.hid hB
    have HO := Lib.hid ho
    have HZr := Lib.hid hZr
    have HG := Lib.hid hgr
    have HDE := Lib.hid hde
    have HR := Lib.hid hrun
    have HRW := Lib.hid hrow
    clear hB ho hZr hgr hde hrun hrow
    by_cases hlt2 : i < L.length
    · rcases (HL.out.grown HG.out).2 with q | ⟨bx, ox, rfl, _, hcx⟩
      · rw [q] at hlt2; simp at hlt2
      have k0 := hcx i hlt2
      clear hcx
      have hsz := HS.out _ (getD_mem_str hlt2)
      have hnx := nextD_step ((m, s), xs) hlt2
      have hsy := saysD_step ((m, s), xs) hlt2
      rw [HR.out] at hnx hsy
      obtain ⟨X, hX⟩ : ∃ X, X = L.getD i nilS := ⟨_, rfl⟩
      rw [← hX] at k0 hsz hnx hsy
      clear hX
      obtain ⟨⟨⟨⟨p2, u2⟩, ys2⟩, A⟩, hR⟩ : ∃ R, R = lineR ((p, u), ys) (bl X) := ⟨_, rfl⟩
      rw [← hR] at hnx hsy
      have HNX := Lib.hid hnx
      have HSY := Lib.hid hsy
      have HD2 := Lib.hid (line_yes HDE.out hR.symm).1
      have cd : ∀ W, LdsAt W ae ys → Calls Tryz.prog 21 #[.agg #[.int .i64 p, .string (bs u), .slice ae ys.length ce], .string X] W fun e w' => ∃ a' cap', e = .returned (.tuple #[.agg #[.int .i64 p2, .string (bs u2), .slice a' ys2.length cap'], .string A]) ∧ OwnL w' W.heap.size a' ys2 ∧ (a' = none → cap' = 0) ∧ W.grownBy w' none := fun W hW => by
        have := sdl_any ((p, u), ys) (bl X) ae ce W (by rw [← bl_size]; exact hsz) hW hz
        rw [← hR] at this
        exact this
      have KS : Hid (∀ w', wr.grownBy w' none →  w'.cell? ⟨c, 0, none⟩ = some (.int .i64 p) ∧ w'.cell? ⟨c, 1, none⟩ = some (.string (bs u)) ∧ w'.cell? ⟨c, 2, none⟩ = some (.slice ae ys.length ce) ∧ w'.cell? ⟨bx, ox + i, none⟩ = some (.string X) ∧ wr.grownBy w' none) := Lib.hid fun w' g => ⟨(HB.out.grown g).three.1, (HB.out.grown g).three.2.1, (HB.out.grown g).three.2.2, g.cell k0 (by simp), g⟩
      have lbb := HB.out.lt
      clear hR hsz hnx hsy k0
      go_wp2_with fail
      go_cut [9, 10] from 30 to 38 (fun pv bv wc => GotV wr p2 u2 ys2 (.string A) pv bv wc)
      case first =>
        go_region_held3 (fun w' => w'.cell? ⟨c, 0, none⟩ = some (.int .i64 p) ∧ w'.cell? ⟨c, 1, none⟩ = some (.string (bs u)) ∧ w'.cell? ⟨c, 2, none⟩ = some (.slice ae ys.length ce) ∧ w'.cell? ⟨bx, ox + i, none⟩ = some (.string X) ∧ wr.grownBy w' none) (first | exact KS.out _ (grownBy_drew (grownBy_refl _ none)) | exact KS.out _ (grownBy_trans (lastS5 (by assumption)) gd) | exact KS.out _ (grownBy_trans (lastS5 (by assumption)) (World.grownBy_alloc _ _ none)) | exact KS.out _ (grownBy_trans G3.out (World.grownBy_alloc _ _ none)) | exact KS.out _ (put3_grown _ G3.out (by exact Nat.le_refl _) _ _ _) | exact KS.out _ (put3_grown _ (grownBy_trans G3.out (World.grownBy_alloc _ _ none)) G3.out.size _ _ _)) (first | (go_at_call 21; (with_reducible refine (cd _ (HO.out.at.grown (lastS5 (by assumption)))).mono ?_); rintro e wd ⟨a3, c3, rfl, o3, z3, gd⟩; have G3 := Lib.hid (grownBy_trans (lastS5 (by assumption)) gd); have OW := Lib.hid (o3.mono (base' := wr.heap.size) (sizeS5 (by assumption))); have HN := Lib.hid (CellsAt.new wd #[.int .i64 0, .string ⟨#[]⟩, .slice none 0 0] 32); obtain ⟨⟨n0, n1, n2⟩, n3, n4, n5⟩ := dk_facts HN.out; have nl := HN.out.lt; (first | (with_reducible have HZ := Lib.hid (zero_1 (drew_grown gd)); obtain ⟨⟨q0, q1, q2⟩, j0, j1, j2⟩ := dk_facts HZ.out; have zl := HZ.out.lt) | (with_reducible have HZ := Lib.hid (zero_1 gd); obtain ⟨⟨q0, q1, q2⟩, j0, j1, j2⟩ := dk_facts HZ.out; have zl := HZ.out.lt) | skip)))
        all_goals go_wp2_with fail
        all_goals go_meet
        all_goals first | with_reducible exact gotV_new OW.out z3 (Nat.le_refl _) G3.out | with_reducible exact gotV_old (OW.out.kept (World.grownBy_alloc _ _ none)) z3 (Nat.le_refl _) (grownBy_trans G3.out (World.grownBy_alloc _ _ none)) HN.out G3.out.size | with_reducible exact gotV_old OW.out z3 (Nat.le_refl _) G3.out HZ.out (Nat.le_refl _) | (trace_state; fail)
      case rest =>
        obtain ⟨cx, a3, c3, rfl, rfl, hcs, hC, o3, z3, hg3⟩ := hcut
        have HB4 := Lib.hid (HB.out.grown hg3)
        have G4 := Lib.hid (grownBy_trans HG.out hg3)
        have O4 := Lib.hid ((o3.mono (base' := w.heap.size) HG.out.size).put3 ⟨_, HB4.out⟩ (.int .i64 p2) (.string (bs u2)) (.slice a3 ys2.length c3))
        have ZP := Lib.hid ((HZr.out.grown hg3).kept (put3_past _ c (.int .i64 p2) (.string (bs u2)) (.slice a3 ys2.length c3)) (by simp; omega))
        have GP := Lib.hid (put3_grown c G4.out (by omega) (.int .i64 p2) (.string (bs u2)) (.slice a3 ys2.length c3))
        have BP := Lib.hid (HB4.out.put3 (.int .i64 p2) (.string (bs u2)) (.slice a3 ys2.length c3))
        have RP := Lib.hid (row_put3 (rowT_kept HRW.out hg3) HB4.out (.int .i64 p2) (.string (bs u2)) (.slice a3 ys2.length c3))
        obtain ⟨⟨y0, y1, y2⟩, v0, v1, v2⟩ := dk_facts HB4.out
        obtain ⟨x0, x1, x2⟩ := hC.three
        have hA := World.ownsRow.alloc RP.out (.cells #[.string A] 9)
        have gN := World.grownBy_alloc (((wc.setCell ⟨c, 0, none⟩ (.int .i64 p2)).setCell ⟨c, 1, none⟩ (.string (bs u2))).setCell ⟨c, 2, none⟩ (.slice a3 ys2.length c3)) (.cells #[.string A] 9) none
        have hnews : ∀ j v, ([Value.string A] : List Value)[j]? = some v → ((((wc.setCell ⟨c, 0, none⟩ (.int .i64 p2)).setCell ⟨c, 1, none⟩ (.string (bs u2))).setCell ⟨c, 2, none⟩ (.slice a3 ys2.length c3)).alloc (.cells #[.string A] 9)).cell? ((⟨wc.heap.size, 0, none⟩ : Addr).add j) = some v := by
          have := onetx_news (((wc.setCell ⟨c, 0, none⟩ (.int .i64 p2)).setCell ⟨c, 1, none⟩ (.string (bs u2))).setCell ⟨c, 2, none⟩ (.slice a3 ys2.length c3)) A
          rw [put3_size] at this
          exact this
        have SR := Lib.hid (strRow_own hA)
        have GQ := Lib.hid (grownBy_trans GP.out gN)
        have BQ := Lib.hid (BP.out.grown gN)
        have OQ := Lib.hid (O4.out.kept gN)
        have ZQ := Lib.hid (ZP.out.grown gN)
        have hiL : i ≤ 40 := by omega
        clear o3 hg3 hC cd KS gN
        go_wp2_with (at_builtin; refine wpList_append_own _ rfl _ _ 49 rfl w.heap.size 9 i0 (.string ⟨#[]⟩) 1 16 Tryz.underlying49 hi0 hz0 hz1 hz2 rfl (by decide) _ _ _ rfl hA ⟨wc.heap.size, 0, none⟩ 1 1 [.string A] rfl rfl hnews (onetx_cell _) ?c3 ?c4 ?c5 ?_)
        case c3 => unfold maxLen; omega
        case c4 => omega
        case c5 => exact GQ.out.size
        intro v' w5 hown' hgrow _
        have hst : Hid (w5.ownsRow w.heap.size 9 1 v' (i + 1) ((saysD ((m, s), xs) (L.take (i + 1))).map Value.string)) := Lib.hid (by rw [HSY.out, List.map_append]; exact hown')
        have hgr5 := Lib.hid (grTx_row GQ.out hA (Nat.le_refl _) hgrow)
        have BR := Lib.hid (BQ.out.sr SR.out hgrow)
        have OR := Lib.hid (OQ.out.sr SR.out hgrow)
        have ZR := Lib.hid (ZQ.out.sr SR.out hgrow)
        clear hA hnews hown' hgrow
        go_wp2_with fail
        go_roundw
        case rel => exact ⟨i + 1, ((p2, u2), ys2), a3, c3, by omega, by go_num, HNX.out, HD2.out, BR.out, OR.out, z3, hst.out, ZR.out, hgr5.out, hb⟩
        case measure => simp [intOf]; omega
    · obtain rfl : i = L.length := by omega
      have e := HR.out
      have hrw := HRW.out
      rw [List.take_length] at e hrw
      obtain ⟨b2, cap2, rfl, hb2⟩ := rowT_shape hrw
      obtain ⟨⟨z0, z1, z2⟩, f0, f1, f2⟩ := dk_facts HZr.out
      have F := Lib.hid (HZr.out.put3 (.int .i64 p) (.string (bs u)) (.slice ae ys.length ce))
      have P : Hid (SayPost (nextD ((m, s), xs) L, saysD ((m, s), xs) L) w (.returned (.tuple #[.agg #[.int .i64 p, .string (bs u), .slice ae ys.length ce], .slice b2 L.length cap2])) (((wr.setCell ⟨w.heap.size + 1, 0, none⟩ (.int .i64 p)).setCell ⟨w.heap.size + 1, 1, none⟩ (.string (bs u))).setCell ⟨w.heap.size + 1, 2, none⟩ (.slice ae ys.length ce))) := by
        rw [e]
        refine ⟨ae, ce, b2, cap2, by rw [saysD_len]; rfl, HO.out.put3 ⟨_, HZr.out⟩ _ _ _, hz, ?_, hb2, put3_grown _ HG.out (by omega) _ _ _⟩
        unfold OwnT
        rw [saysD_len]
        exact row_put3 hrw HZr.out _ _ _
      clear e hrw
      obtain ⟨y0, y1, y2⟩ := HB.out.three
      go_wp2_with fail
      exact bodyPost_ret (v := .tuple #[.agg #[.int .i64 p, .string (bs u), .slice ae ys.length ce], .slice b2 L.length cap2]) (resDkB (b := .slice b2 L.length cap2) rfl _ rfl rfl F.out) rfl P.out

theorem sdsay_any (d : Dk) (L : List ByteArray) (a b : Option Addr) (cap capb : Nat) (w : World) (h : LdsAt w a d.2) (h0 : a = none → cap = 0) (hl : StrsAt w b L) (ht : ∀ x ∈ L, x.size ≤ 2097152) :
    Calls Tryz.prog 26 #[dkV d a cap, .slice b L.length capb] w (SayPost (talkR d L) w) := by
  obtain ⟨⟨m, s⟩, xs⟩ := d
  by_cases hd : dkB ((m, s), xs) = true ∧ L.length ≤ 40
  · rw [talkR_yes hd.1 hd.2]
    exact sdsay_ok m s xs L a b cap capb w h h0 hl ht hd.1 hd.2
  · rw [talkR_no hd]
    refine sdsay_bad m s xs L a b cap capb w h ?_
    cases hq : dkB ((m, s), xs)
    · exact .inl rfl
    · exact .inr ⟨rfl, Nat.lt_of_not_le fun q => hd ⟨hq, q⟩⟩

end Go.Proofs.YtlnffpofbfigaaaGreatDoor

/-
  What the promise of DeskSay tells of answers: none is empty, and whatever is said follows of itself and of what is false.
-/
namespace Go.Proofs.YtlnffpofbfigaaaGreatDoor
open Go.RowKit

theorem len_bs {l : List UInt8} (h : l ≠ []) : 0 < (bs l).size := by
  rw [bs_size]; exact List.length_pos_iff.2 h
theorem yesA_pos (b : Bool) : 0 < (yesA b).size := by cases b <;> decide
theorem rowA_size (l : List Int) : 0 < (rowA l).size := len_bs (rowT_pos _)
theorem size_ne {A : ByteArray} (h : A.toList.isEmpty = false) : 0 < A.size := by
  have h2 : A.size = A.data.toList.length := Array.length_toList.symm
  rw [ByteArray.toList_eq] at h
  rw [h2]
  cases hz : A.data.toList with
  | nil => rw [hz] at h; cases h
  | cons x l => simp
theorem vtext_full {n v : Int} (h : vokB n v = true) : (vtext n v).toList.isEmpty = false := by
  unfold vtext vtextOf
  rw [h, if_pos rfl, ByteArray.toList_eq]
  split
  · rfl
  · simp [digS]
theorem vtext_pos {n v : Int} (h : vokB n v = true) : 0 < (vtext n v).size := size_ne (vtext_full h)
theorem ansQ_pos {N : Nat} {l : List UInt8} (h : NowOk N l) (q : Nat) : 0 < (ansQ N l q).size := by
  obtain ⟨h1, t, ht⟩ := h
  match q with
  | 0 => exact len_bs (decL_pos _)
  | 1 =>
    refine len_bs fun e => ?_
    rw [e] at ht
    have e0 : isF [] = false := by decide
    rw [isF_t ht] at e0
    cases e0
  | 2 => exact yesA_pos _
  | 3 =>
    refine vtext_pos ?_
    rw [leastI_t ht (inB_t (by omega))]
    exact lowU_ok h1 t _
  | 4 => exact rowA_size _
  | 5 => exact rowA_size _
  | 6 => exact len_bs (decL_pos _)
  | 7 => exact len_bs (decL_pos _)
  | _ + 8 => exact rowA_size _
theorem ansA_pos {N : Nat} {l : List UInt8} (h : NowOk N l) (x y z : List UInt8) : 0 < (ansA N l x y z).size := by
  obtain ⟨h1, t, ht⟩ := h
  unfold ansA
  split
  · decide
  split
  · decide
  · rename_i hv
    refine vtext_pos ?_
    cases hk : thrB N (digI x) (digI y) (digI z)
    · rw [valI_f hk] at hv; exact absurd (by decide) hv
    · rw [valI_t ht hk]; exact val_ok hk t
theorem ansO_pos {N : Nat} {l : List UInt8} (h : NowOk N l) (line : List UInt8) : 0 < (ansO N l line).size := by
  unfold ansO
  split
  · split
    · exact yesA_pos _
    · decide
  · split
    · exact ansA_pos h _ _ _
    · decide
  · decide
theorem line_pos {d : Dk} (h : dkB d = true) (l : List UInt8) : 0 < (lineR d l).2.size := by
  obtain ⟨⟨m, s⟩, xs⟩ := d
  obtain ⟨N, rfl, hN⟩ := now_ok h
  unfold lineR
  rw [if_pos h]
  cases rdD l with
  | some D => show 0 < (okT _).size; unfold okT; cases (doR (((N : Int), s), xs) D).2 <;> decide
  | none =>
    show 0 < (ansD N s l).size
    unfold ansD
    split
    · exact ansQ_pos hN _
    · exact ansO_pos hN _
theorem saysD_pos : ∀ (L : List ByteArray) {d : Dk}, dkB d = true → ∀ A ∈ saysD d L, 0 < A.size
  | [], _, _, _, hA => by cases hA
  | s :: L, d, h, A, hA => by
    rcases List.mem_cons.1 hA with e | e
    · rw [e]; exact line_pos h _
    · exact saysD_pos L (line_ok _ h) A e

def fromS : List UInt8 := [102, 114, 111, 109, 32]
theorem rdD_from (t : List UInt8) : rdD (fromS ++ t) = none := by
  unfold rdD
  rw [if_neg (by simp [fromS, notD]), if_neg (by simp [fromS, basicD]), if_neg (by simp [fromS, backD])]
  have e0 : behind chainW (fromS ++ t) = none := by simp [behind, chainW, fromS]
  have e1 : behind sayW (fromS ++ t) = none := by simp [behind, sayW, fromS]
  have e2 : behind timesW' (fromS ++ t) = none := by simp [behind, timesW', fromS]
  have e3 : behind ifW (fromS ++ t) = none := by simp [behind, ifW, fromS]
  unfold rd0 rd1 rd2 rd3
  rw [e0, e1, e2, e3]
theorem line_from {d : Dk} {t : List UInt8} (h : dkB d = true) (ht : isF t = true) (hf : folI d.1.1 [t] d.1.2 = true) : lineR d (fromS ++ t) = (d, ⟨#[121, 101, 115]⟩) := by
  unfold lineR
  rw [if_pos h, rdD_from]
  show (d, ansD d.1.1 d.1.2 (fromS ++ t)) = _
  rw [ansD_o (by simp [askW, fromS])]
  unfold ansO
  rw [show fromS ++ t = [102, 114, 111, 109] ++ 32 :: t from rfl, cutL_more t (by decide), cutL_one (fNoSp ht)]
  show (d, if _ then yesA (folI d.1.1 [t] d.1.2) else whatA) = _
  rw [if_pos ⟨rfl, ht⟩, hf]
  rfl
theorem line_own {d : Dk} (h : dkB d = true) : lineR d (fromS ++ d.1.2) = (d, ⟨#[121, 101, 115]⟩) := by
  obtain ⟨⟨m, s⟩, xs⟩ := d
  obtain ⟨N, rfl, h1, t, ht⟩ := now_ok h
  refine line_from h (isF_t ht) ?_
  show folI N [s] s = true
  have hp : prOf [s] = some [t] := by rw [prOf_s (by simp)]; exact fsOf_cons ht rfl
  rw [folI_t hp ht (inB_t (by omega))]
  exact folK_mem (by simp)
theorem line_zero {d : Dk} (h : dkB d = true) : lineR d (fromS ++ [48]) = (d, ⟨#[121, 101, 115]⟩) := by
  obtain ⟨⟨m, s⟩, xs⟩ := d
  obtain ⟨N, rfl, h1, t, ht⟩ := now_ok h
  have hz : fOf [48] = some (.tru false) := fOf_txt (t := .tru false) (by decide)
  refine line_from h (isF_t hz) ?_
  show folI N [[48]] s = true
  have hp : prOf [[48]] = some [.tru false] := by rw [prOf_s (by simp)]; exact fsOf_cons hz rfl
  rw [folI_t hp ht (inB_t (by omega))]
  refine folK_mk fun k _ ha => ?_
  unfold allK at ha
  rw [List.all_cons, truK_zero h1.1] at ha
  cases ha
theorem own_len {d : Dk} (h : dkB d = true) : d.1.2.length ≤ 60 := by
  obtain ⟨⟨m, s⟩, xs⟩ := d
  obtain ⟨N, _, _, t, ht⟩ := now_ok h
  exact isF_len (isF_t ht)

end Go.Proofs.YtlnffpofbfigaaaGreatDoor

/-
  The draw of a desk with lines; two rows of texts, the same.
-/
namespace Go.Proofs.YtlnffpofbfigaaaGreatDoor
open Go.RowKit

set_option maxHeartbeats 1000000 in
theorem sameTx_any (a b : Option Addr) (ca cb : Nat) (ss : List ByteArray) (w : World) (hx : StrsAt w a ss) (hy : StrsAt w b ss) :
    Calls Tryz.prog 27 #[.slice a ss.length ca, .slice b ss.length cb] w fun e w' => e = .returned (.bool true) ∧ w.grownBy w' none := by
  have hm := hx.1
  unfold maxLen at hm
  have Hx := Lib.hid hx
  have Hy := Lib.hid hy
  clear hx hy
  have g0 : ((ss.length : Int) != (ss.length : Int)) = false := by simp
  go_enter Tryz.func27, Tryz.ntmps27
  go_wp2
  clear g0
  go_loopw [5] (fun i wr => ∃ k : Nat, k ≤ ss.length ∧ i = .int .i64 k ∧ w.grownBy wr none) (fun i _ => ss.length - (intOf i).toNat)
  case atStart => exact ⟨0, by omega, rfl, grownBy_refl _ _⟩
  case round =>
    obtain ⟨k, hk, rfl, hgr⟩ := hrel
    by_cases hlt : k < ss.length
    · have hx2 := Hx.out.grown hgr
      have hy2 := Hy.out.grown hgr
      have Hgr := Lib.hid hgr
      clear hgr
      rcases hx2.2 with h0 | ⟨bx, ox, rfl, hbx, hcx⟩
      · rw [h0] at hlt; simp at hlt
      rcases hy2.2 with h0 | ⟨by', oy, rfl, hby, hcy⟩
      · rw [h0] at hlt; simp at hlt
      have hc1 := hcx k hlt
      have hc2 := hcy k hlt
      clear hx2 hy2 hcx hcy hbx hby
      generalize ss.getD k nilS = p at *
      have g1 : (p.toList != p.toList) = false := by simp
      go_wp2
      go_quiet (fail)
      go_wp2
      go_roundw
      case rel => exact ⟨k + 1, by omega, by go_num, grownBy_drewN Hgr.out _⟩
      case measure => simp [intOf]; omega
    · have Hgr := Lib.hid hgr
      clear hgr
      go_wp2
      go_ret
      exact ⟨rfl, Hgr.out⟩

def nilT41 : List ByteArray := List.replicate 41 nilS
theorem e41 : (madeCells #[Value.string ⟨#[]⟩] 41).toList = nilT41.map Value.string := by kernel_rfl
theorem rowT_past {w w' : World} {base n r : Nat} {v : Value} {zs : List Value} (h : w.ownsRow base 9 1 v n zs) (hg : w.grownBy w' (some r)) (hr : r < base) : w'.ownsRow base 9 1 v n zs :=
  World.ownsRow.kept h hg (.inr fun e => by have := World.ownsRow.lt h _ e; omega)
/-- Where a row of texts begins. -/
def StsWay (b : Option Addr) (L : List ByteArray) (capb : Nat) : Prop := L.length ≤ capb ∧ capb ≤ maxLen ∧ ∃ g, b = some ⟨g, 0, none⟩
theorem rowT_room {w : World} {base n g c : Nat} {zs : List Value} (h : w.ownsRow base 9 1 (.slice (some ⟨g, 0, none⟩) n c) n zs) : n ≤ c ∧ c ≤ maxLen := by
  rcases h.2 with ⟨h0, h1⟩ | ⟨g, c, cur, he, _, _, hn, hc, _⟩
  · cases h0
  · simp only [Value.slice.injEq, true_and] at he
    rw [he.2]; exact ⟨hn, hc⟩
theorem rowT_way {w : World} {base : Nat} {v : Value} {L : List ByteArray} (h : w.ownsRow base 9 1 v L.length (L.map Value.string)) (hs : ∃ g c, v = .slice (some ⟨g, 0, none⟩) L.length c) : ∃ b capb, v = .slice b L.length capb ∧ StrsAt w b L ∧ StsWay b L capb := by
  obtain ⟨g, c, rfl⟩ := hs
  have hr := rowT_room h
  refine ⟨_, c, rfl, ⟨by omega, ?_⟩, hr.1, hr.2, _, rfl⟩
  by_cases h0 : L.length = 0
  · exact .inl (List.length_eq_zero_iff.1 h0)
  · have hx : ∀ j, j < L.length → (L.map Value.string)[j]? = some (.string (L.getD j nilS)) := fun j hj => by rw [List.getElem?_map, List.getD_eq_getElem?_getD, List.getElem?_eq_getElem hj]; rfl
    have c0 := World.ownsRow.cellAt h 0 (by omega)
    rw [hx 0 (by omega)] at c0
    refine .inr ⟨g, 0, rfl, World.block_lt_of_cell? w _ c0, fun i hi => ?_⟩
    have hc := World.ownsRow.cellAt h i (by omega)
    rw [Nat.zero_add, hc, hx i hi]
def DsayPost (w : World) (e : Ending) (w' : World) : Prop := ∃ (d : Dk) (a : Option Addr) (cap : Nat) (L : List ByteArray) (b : Option Addr) (capb : Nat), e = .returned (.tuple #[dkV d a cap, .slice b L.length capb]) ∧ LdsAt w' a d.2 ∧ (a = none → cap = 0) ∧ StrsAt w' b L ∧ StsWay b L capb ∧ (∀ x ∈ L, x.size ≤ 70) ∧ w.grownBy w' none

theorem DrS.sr {w0 W W' : World} {c : Nat} {u v x m s y : Value} {base n : Nat} {q : Value} {zs : List Value} (h : DrS w0 W c u v x m s y) (ho : W.ownsRow base 9 1 q n zs) (hb : w0.heap.size ≤ base) (hg : W.grownBy W' q.ownBlock) : DrS w0 W' c u v x m s y :=
  ⟨h.1.sr (strRow_own ho) hg, h.2.1.sr (strRow_own ho) hg, grTx_row h.2.2.1 ho hb hg, h.2.2.2⟩
theorem rd_ownT {w w' : World} {r P base n : Nat} {v : Value} {zs : List Value} (hr : Rd w r P) (o : w.ownsRow base 9 1 v n zs) (hb : r < base) (hg : w.grownBy w' v.ownBlock) : Rd w' r P :=
  hr.kept fun k hk => hg.block k (by have := hr.lt; omega) fun e => by have := World.ownsRow.lt o k e.symm; omega

theorem OwnL.pastB {w w' : World} {base b : Nat} {a : Option Addr} {xs : List Ld} (h : OwnL w base a xs) (hg : w.grownBy w' (some b)) (hb : b < base) : OwnL w' base a xs := by
  refine ⟨h.1, ?_⟩
  rcases h.2 with h | ⟨g, off, cur, ha, hbb, hh, hc⟩
  · exact .inl h
  · exact .inr ⟨g, off, cur, ha, hbb, (hg.block g (Array.getElem?_eq_some_iff.1 hh).1 (by simp; omega)).trans hh, hc⟩
/-- The lines so far. -/
def LnRel (w0 : World) (c : Nat) (m : Int) (s : List UInt8) (xs : List Ld) (a : Option Addr) (cap : Nat) (kv ov : Value) (wr : World) : Prop :=
  ∃ (j : Nat) (L : List ByteArray), kv = .int .i64 j ∧ L.length + j ≤ 6 ∧ wr.ownsRow (w0.heap.size + 2) 9 1 ov L.length (L.map Value.string) ∧ (∃ g cp, ov = .slice (some ⟨g, 0, none⟩) L.length cp) ∧ (∀ x ∈ L, x.size ≤ 70) ∧ Rd wr (w0.heap.size + 1) (1307 - j * 101) ∧ DrS w0 wr c (.int .i64 0) (.string ⟨#[]⟩) (.slice none 0 0) (.int .i64 m) (.string (bs s)) (.slice a xs.length cap) ∧ OwnL wr (w0.heap.size + 2) a xs

set_option maxRecDepth 8000 in
set_option maxHeartbeats 8000000 in
theorem DrawDeskSay_any (a : Option Addr) (len cap : Nat) (zs : List Int) (w : World) (h : IsRow .u8 w a len cap zs) :
    Calls Tryz.prog 24 #[.slice a len cap] w (DsayPost w) := by
  have g0 := World.grownBy_alloc w (.cells #[.int .i64 0, .string ⟨#[]⟩, .slice none 0 0] 32) none
  have hB := CellsAt.new w #[.int .i64 0, .string ⟨#[]⟩, .slice none 0 0] 32
  have ha := h.up g0
  have hR : (w.alloc (.cells #[.int .i64 0, .string ⟨#[]⟩, .slice none 0 0] 32)).heap.size = w.heap.size + 1 := by show (w.heap.push _).size = _; rw [Array.size_push]
  have HR := Lib.hid hR
  have co := open_draw a len cap zs _ ha
  unfold OpenPost at co
  rw [hR] at co
  have HB := Lib.hid hB
  have G0 := Lib.hid g0
  obtain ⟨i0, hi0, hz0, hz1, hz2⟩ := info_parts infoTx
  clear h hB g0 hR ha
  go_enter Tryz.func24, Tryz.ntmps24
  go_wp2_with fail
  refine co.mono ?_
  rintro e w1 ⟨rfl, hr1, hg1⟩
  have cd := desk_draw (fun w r P hr hP => deed_draw w r P hr hP) 12 w1 (w.heap.size + 1) 0 hr1 (by omega) (by omega) (by omega)
  have hl1 := hr1.lt
  clear co
  go_wp2_with fail
  refine cd.mono ?_
  rintro e w2 ⟨d, a, cap, rfl, ho, hr2, hg2⟩
  obtain ⟨⟨m, s⟩, xs⟩ := d
  have hgg := grownBy_own hg1 (by rw [HR.out]; exact hg2)
  have hl2 := hr2.lt
  have S0 := Lib.hid (show DrS w (w2.alloc (.cells #[.int .i64 m, .string (bs s), .slice a xs.length cap] 32)) w2.heap.size (.int .i64 0) (.string ⟨#[]⟩) (.slice none 0 0) (.int .i64 m) (.string (bs s)) (.slice a xs.length cap) from ⟨(HB.out.grown hgg).grown (World.grownBy_alloc _ _ none), CellsAt.new w2 _ _, grownBy_trans (grownBy_trans G0.out hgg) (World.grownBy_alloc _ _ none), hl2⟩)
  have hr3 := Lib.hid (hr2.alloc (.cells #[.int .i64 m, .string (bs s), .slice a xs.length cap] 32))
  have ho3 := Lib.hid (ho.kept (World.grownBy_alloc w2 (.cells #[.int .i64 m, .string (bs s), .slice a xs.length cap] 32) none))
  clear ho hr2 hg2 hg1 hr1 hgg cd
  unfold dkV
  go_wp2_with fail
  have hWs := sizeA w2 (.cells #[.int .i64 m, .string (bs s), .slice a xs.length cap] 32)
  generalize w2.alloc (.cells #[.int .i64 m, .string (bs s), .slice a xs.length cap] 32) = W at *
  generalize w2.heap.size = c at *
  have z := ho3.out.bare
  have lc := S0.out.2.2.2
  have lW := S0.out.2.1.lt
  have hA : (W.alloc (.cells #[] 9)).ownsRow (w.heap.size + 2) 9 1 (.slice (some ⟨W.heap.size, 0, none⟩) 0 0) 0 [] := World.ownsRow_lit (e := 9) (size := 1) (base := w.heap.size + 2) W #[] 0 (by omega) (by unfold maxLen; omega) rfl
  rw [hWs] at hA
  clear hWs
  refine (pick_any _ _ _ _ (hr3.out.alloc (.cells #[] 9)) (by omega)).mono ?_
  rintro e w3 ⟨j0, rfl, hj0, hj1, hr4, hg4⟩
  obtain ⟨j0, rfl⟩ := Int.eq_ofNat_of_zero_le hj0
  have hInit : Hid (LnRel w c m s xs a cap (.int .i64 (j0 : Int)) (.slice (some ⟨c + 1, 0, none⟩) 0 0) w3) := ⟨j0, [], rfl, by simp; omega, rowT_past hA hg4 (by omega), ⟨_, _, rfl⟩, by simp, hr4.mono (by omega), (S0.out.alloc _).call hg4, ((ho3.out.l.mono (by omega)).kept (World.grownBy_alloc _ _ none)).pastB hg4 (by omega)⟩
  clear hA hr4 hg4 hr3 ho3 S0 lW
  go_wp2_with fail
  go_loopw [7, 6] (fun kv ov wr => LnRel w c m s xs a cap kv ov wr) (fun kv _ _ => (intOf kv).toNat)
  case atStart => exact hInit.out
  case round =>
    obtain ⟨j, L, rfl, hLj, hrow, ⟨g, cp, rfl⟩, hsz, hrr, hS, ho⟩ := hrel
    have HRW := Lib.hid hrow
    have HSZ := Lib.hid hsz
    have HS := Lib.hid hS
    have HO := Lib.hid ho
    have HRR := Lib.hid hrr
    clear hrow hsz hS ho hrr
    by_cases hz : j = 0
    · subst hz
      go_wp2_with fail
      refine (odd_any _ _ _ _ HRR.out (by omega) (by omega) (by omega)).mono ?_
      rintro e wo ⟨bo, rfl, hro, hgo⟩
      have S1 := Lib.hid (HS.out.call hgo)
      have O1 := Lib.hid (HO.out.pastB hgo (by omega))
      have R1 := Lib.hid (rowT_past HRW.out hgo (by omega))
      have lo := S1.out.2.1.lt
      clear hro hgo HS HO HRW HRR
      cases bo
      · obtain ⟨⟨⟨d0, d1, d2⟩, f0, f1, f2⟩, ⟨⟨z0, z1, z2⟩, y0, y1, y2⟩⟩ := S1.out.facts
        have S3 := Lib.hid (S1.out.put (.int .i64 m) (.string (bs s)) (.slice a xs.length cap))
        have O3 := Lib.hid (O1.out.put3 ⟨_, S1.out.1⟩ (.int .i64 m) (.string (bs s)) (.slice a xs.length cap))
        have R3 := Lib.hid (row_put3 R1.out S1.out.1 (.int .i64 m) (.string (bs s)) (.slice a xs.length cap))
        go_wp2_with fail
        obtain ⟨b, capb, hb, hst, hw⟩ := rowT_way R3.out ⟨_, _, rfl⟩
        cases hb
        exact bodyPost_ret (v := .tuple #[.agg #[.int .i64 m, .string (bs s), .slice a xs.length cap], .slice (some ⟨g, 0, none⟩) L.length cp]) (resDkB (b := .slice (some ⟨g, 0, none⟩) L.length cp) rfl _ rfl rfl S3.out.1) rfl ⟨((m, s), xs), a, cap, L, _, _, rfl, O3.out.at, z, hst, hw, HSZ.out, S3.out.2.2.1⟩
      · go_wp2_with (at_make; refine wpList_make_full _ rfl _ _ 49 rfl (w.heap.size + 2) 9 i0 (.string ⟨#[]⟩) 1 Tryz.underlying49 hi0 hz0 hz1 .i64 .i64 _ _ 41 rfl rfl rfl rfl ?b2 ?b3 ?b4 ?_)
        case b2 => rw [hz2]; omega
        case b3 => unfold maxLen; omega
        case b4 => omega
        intro wm hown hgrow
        have S2 := Lib.hid (show DrS w wm c (.int .i64 0) (.string ⟨#[]⟩) (.slice none 0 0) (.int .i64 m) (.string (bs s)) (.slice a xs.length cap) from ⟨S1.out.1.grown hgrow, S1.out.2.1.grown hgrow, grownBy_trans S1.out.2.2.1 hgrow, S1.out.2.2.2⟩)
        have O2 := Lib.hid (O1.out.kept hgrow)
        have R2 : Hid (wm.ownsRow (w.heap.size + 2) 9 1 (.slice (some ⟨wo.heap.size, 0, none⟩) 41 41) nilT41.length (nilT41.map Value.string)) := Lib.hid (by rw [e41] at hown; exact hown)
        clear hown hgrow S1 O1 R1
        obtain ⟨⟨⟨d0, d1, d2⟩, f0, f1, f2⟩, ⟨⟨z0, z1, z2⟩, y0, y1, y2⟩⟩ := S2.out.facts
        have S3 := Lib.hid (S2.out.put (.int .i64 m) (.string (bs s)) (.slice a xs.length cap))
        have O3 := Lib.hid (O2.out.put3 ⟨_, S2.out.1⟩ (.int .i64 m) (.string (bs s)) (.slice a xs.length cap))
        have R3 := Lib.hid (row_put3 R2.out S2.out.1 (.int .i64 m) (.string (bs s)) (.slice a xs.length cap))
        go_wp2_with fail
        obtain ⟨b, capb, hb, hst, hw⟩ := rowT_way R3.out ⟨_, _, rfl⟩
        cases hb
        exact bodyPost_ret (v := .tuple #[.agg #[.int .i64 m, .string (bs s), .slice a xs.length cap], .slice (some ⟨wo.heap.size, 0, none⟩) 41 41]) (resDkB (b := .slice (some ⟨wo.heap.size, 0, none⟩) 41 41) rfl _ rfl rfl S3.out.1) rfl ⟨((m, s), xs), a, cap, nilT41, _, _, rfl, O3.out.at, z, hst, hw, fun x hx => by rw [List.eq_of_mem_replicate hx]; decide, S3.out.2.2.1⟩
    · have hpos : 0 < (j : Int) := by omega
      go_wp2_with fail
      refine (line_draw _ _ _ HRR.out (by omega)).mono ?_
      rintro e wa ⟨A, rfl, hAl, hra, hga⟩
      have S1 := Lib.hid ((HS.out.call hga).alloc (.cells #[.string A] 9))
      have O1 := Lib.hid ((HO.out.pastB hga (by omega)).kept (World.grownBy_alloc wa (.cells #[.string A] 9) none))
      have hA := World.ownsRow.alloc (rowT_past HRW.out hga (by omega)) (.cells #[.string A] 9)
      have R1 := Lib.hid (hra.alloc (.cells #[.string A] 9))
      have hnews := onetx_news wa A
      have lo : w.heap.size + 2 ≤ wa.heap.size := by have := (HS.out.call hga).2.1.lt; omega
      have hsz2 : (wa.alloc (.cells #[.string A] 9)).heap.size = wa.heap.size + 1 := sizeA _ _
      clear hra hga HS HO HRW HRR
      go_wp2_with (at_builtin; refine wpList_append_own _ rfl _ _ 49 rfl (w.heap.size + 2) 9 i0 (.string ⟨#[]⟩) 1 16 Tryz.underlying49 hi0 hz0 hz1 hz2 rfl (by decide) _ _ _ rfl hA ⟨wa.heap.size, 0, none⟩ 1 1 [.string A] rfl rfl hnews (onetx_cell _) ?c3 ?c4 ?c5 ?_)
      case c3 => unfold maxLen; omega
      case c4 => omega
      case c5 => omega
      intro v' w5 hown' hgrow hv
      have hown2 : w5.ownsRow (w.heap.size + 2) 9 1 v' (L ++ [A]).length ((L ++ [A]).map Value.string) := by rw [List.map_append, List.length_append]; exact hown'
      have S5 := Lib.hid (S1.out.sr hA (by omega) hgrow)
      have O5 := Lib.hid (O1.out.sr (strRow_own hA) hgrow)
      have R5 := Lib.hid (rd_ownT R1.out hA (by omega) hgrow)
      have sh : Hid (∃ g cp, v' = .slice (some ⟨g, 0, none⟩) (L ++ [A]).length cp) := Lib.hid (by
        rcases hown2.2 with ⟨_, h2⟩ | ⟨g, cap, cur, h2, _⟩
        · simp at h2
        · exact ⟨_, _, h2⟩)
      have RW5 := Lib.hid hown2
      clear hown' hown2 hgrow hA hnews hv S1 O1 R1
      go_wp2_with fail
      go_roundw
      case rel => exact ⟨j - 1, L ++ [A], by congr 1; omega, by simp; omega, RW5.out, sh.out, fun x hx => by
          rcases List.mem_append.1 hx with h | h
          · exact HSZ.out x h
          · rw [List.mem_singleton] at h; rw [h]; exact hAl, R5.out.mono (by omega), S5.out, O5.out⟩
      case measure => simp [intOf]; omega

end Go.Proofs.YtlnffpofbfigaaaGreatDoor

/-
  Rows of texts marked, and marked rows of texts read again; a copy of texts is the call's own.
-/
namespace Go.Proofs.YtlnffpofbfigaaaGreatDoor
open Go.RowKit

/-- The texts that the laws write into a row, from the mark k on. -/
def mkT (k n : Nat) : List ByteArray := (List.range n).map fun i => bs (mtx (k + i))
theorem mkT_len (k n : Nat) : (mkT k n).length = n := by simp [mkT]
theorem mkT_at (k n i : Nat) (h : i < n) : (mkT k n).getD i nilS = bs (mtx (k + i)) := by simp [mkT, List.getD_eq_getElem?_getD, h]
def MkRelT (k n g cap base : Nat) (w : World) (kv iv : Value) (wr : World) : Prop :=
  ∃ (i : Nat) (vs : List Value), i ≤ n ∧ kv = .int .i64 ((k + i : Nat) : Int) ∧ iv = .int .i64 i ∧ wr.ownsRow base 9 1 (.slice (some ⟨g, 0, none⟩) n cap) n vs ∧ (∀ j, j < i → vs[j]? = some (.string (bs (mtx (k + j))))) ∧ w.grownBy wr (some g)

set_option maxRecDepth 8000 in
set_option maxHeartbeats 2000000 in
theorem markStringS_at (k n g cap base : Nat) (vs0 : List Value) (hk : 0 < k ∧ k ≤ 50000000) (hn : n ≤ 50000000) (w : World) (h : w.ownsRow base 9 1 (.slice (some ⟨g, 0, none⟩) n cap) n vs0) :
    Calls Tryz.prog 36 #[.slice (some ⟨g, 0, none⟩) n cap, .int .i64 k] w fun e w' => ∃ vs, e = .returned (.int .i64 ((k + n : Nat) : Int)) ∧ w'.ownsRow base 9 1 (.slice (some ⟨g, 0, none⟩) n cap) n vs ∧ (∀ j, j < n → vs[j]? = some (.string (bs (mtx (k + j))))) ∧ w.grownBy w' (some g) := by
  have HH := Lib.hid h
  clear h
  go_enter Tryz.func36, Tryz.ntmps36
  go_wp2
  go_loopw [1, 5] (fun kv iv wr => MkRelT k n g cap base w kv iv wr) (fun _ iv _ => n - (intOf iv).toNat)
  case atStart => exact ⟨0, vs0, by omega, by simp, rfl, HH.out, fun j hj => absurd hj (by omega), grownBy_refl _ _⟩
  case round =>
    obtain ⟨i, vs, hi, rfl, rfl, hown, hx, hgr⟩ := hrel
    by_cases hlt : i < n
    · obtain ⟨K, hK⟩ : ∃ K, K = k + i := ⟨_, rfl⟩
      have cm : ∀ w, Calls Tryz.prog 89 #[.int .i64 (K : Int)] w fun e w' => e = .returned (.string (bs (mtx K))) ∧ w.grownBy w' none := fun w => markText_any K (by omega) (by omega) w
      have hKb : K ≤ 100000000 := by omega
      have HX : Hid (∀ j, j < i + 1 → (vs.set i (.string (bs (mtx K))))[j]? = some (.string (bs (mtx (k + j))))) := Lib.hid fun j hj => by
        have hl := hown.1
        by_cases e : j = i
        · subst e; rw [List.getElem?_set_self (by omega), hK]
        · rw [List.getElem?_set_ne (by omega)]; exact hx j (by omega)
      have HO := Lib.hid hown
      have HG := Lib.hid hgr
      rw [← hK]
      have HK := Lib.hid hK
      clear hown hx hgr hK
      generalize bs (mtx K) = T at *
      go_wp2_with (first | (go_at_call 89; refine (cm _).mono ?_; rintro e w2 ⟨rfl, hg2⟩; go_loud (have hown2 := World.ownsRow.kept HO.out hg2 (.inr (by simp [Value.ownBlock])); have hfr := World.ownsRow.frozenAt hown2 i; have hce := World.ownsRow.cellAt hown2 i (by omega); have hxl := hown2.1; rw [List.getElem?_eq_getElem (by omega)] at hce; obtain ⟨u, hce⟩ : ∃ u, w2.cell? ⟨g, i, none⟩ = some u := ⟨_, hce⟩; have hst := Lib.hid (World.ownsRow.stored hown2 i (.string T)); have G2 := Lib.hid (grownBy_trans HG.out (grownBy_trans (grown_any (row := some g) hg2) hst.out.2)); clear hown2 hg2)))
      go_roundw
      case rel => exact ⟨i + 1, _, by omega, by have := HK.out; congr 1; omega, by go_num, hst.out.1, HX.out, G2.out⟩
      case measure => simp [intOf]; omega
    · obtain rfl : i = n := by omega
      have R := Lib.hid (show ∃ vs, wr.ownsRow base 9 1 (.slice (some ⟨g, 0, none⟩) i cap) i vs ∧ (∀ j, j < i → vs[j]? = some (.string (bs (mtx (k + j))))) ∧ w.grownBy wr (some g) from ⟨vs, hown, hx, hgr⟩)
      clear hown hx hgr
      go_wp2
      go_ret
      obtain ⟨vs, h1, h2, h3⟩ := R.out
      exact ⟨vs, rfl, h1, h2, h3⟩

set_option maxHeartbeats 1000000 in
theorem markStringS_zero (a : Option Addr) (cap : Nat) (k : Int) (w : World) :
    Calls Tryz.prog 36 #[.slice a 0 cap, .int .i64 k] w fun e w' => e = .returned (.int .i64 k) ∧ w = w' := by
  go_enter Tryz.func36, Tryz.ntmps36
  go_wp2
  go_loopw [1, 5] (fun kv iv wr => kv = .int .i64 k ∧ iv = .int .i64 0 ∧ w = wr) (fun _ _ _ => 0)
  case atStart => exact ⟨rfl, rfl, rfl⟩
  case round =>
    obtain ⟨rfl, rfl, rfl⟩ := hrel
    go_wp2
    go_ret
    exact ⟨rfl, rfl⟩

/-- What is left of a row of texts that was marked; nothing else changed but its own block. -/
def MarkedT (a : Option Addr) (k n : Nat) (w w' : World) : Prop := StrsAt w' a (mkT k n) ∧ ∃ row : Option Nat, (∀ g, row = some g → 0 < n ∧ ∃ x, a = some x ∧ x.block = g) ∧ w.grownBy w' row

theorem OwnT.way {w : World} {base cap : Nat} {a : Option Addr} {L : List ByteArray} (h : OwnT w base a cap L) : (a = none ∧ L = []) ∨ ∃ g, a = some ⟨g, 0, none⟩ := by
  rcases h.2 with ⟨h0, h1⟩ | ⟨g, c, cur, he, _⟩
  · simp only [Value.slice.injEq] at h0
    exact .inl ⟨h0.1, by simpa using h1⟩
  · simp only [Value.slice.injEq] at he
    exact .inr ⟨g, he.1⟩
theorem OwnT.room {w : World} {base cap : Nat} {a : Option Addr} {L : List ByteArray} (h : OwnT w base a cap L) : L.length ≤ cap ∧ cap ≤ maxLen := by
  rcases h.2 with ⟨h0, h1⟩ | ⟨g, c, cur, he, _, _, hn, hc, _⟩
  · simp only [Value.slice.injEq] at h0
    have : L = [] := by simpa using h1
    rw [this, h0.2.2]; exact ⟨Nat.le_refl _, Nat.zero_le _⟩
  · simp only [Value.slice.injEq, true_and] at he
    rw [he.2]; exact ⟨hn, hc⟩
theorem rowT_strs {w : World} {base n g cap : Nat} {vs : List Value} {L : List ByteArray} (h : w.ownsRow base 9 1 (.slice (some ⟨g, 0, none⟩) n cap) n vs) (hn : L.length = n) (hx : ∀ j, j < n → vs[j]? = some (.string (L.getD j nilS))) (hm : n ≤ maxLen) : StrsAt w (some ⟨g, 0, none⟩) L := by
  refine ⟨by omega, ?_⟩
  by_cases h0 : n = 0
  · exact .inl (List.length_eq_zero_iff.1 (by omega))
  · have c0 := World.ownsRow.cellAt h 0 (by omega)
    rw [hx 0 (by omega)] at c0
    refine .inr ⟨g, 0, rfl, World.block_lt_of_cell? w _ c0, fun i hi => ?_⟩
    have hc := World.ownsRow.cellAt h i (by omega)
    rw [Nat.zero_add, hc, hx i (by omega)]
theorem OwnT.at {w : World} {base cap : Nat} {a : Option Addr} {L : List ByteArray} (h : OwnT w base a cap L) : StrsAt w a L := by
  rcases h.way with ⟨rfl, rfl⟩ | ⟨g, rfl⟩
  · exact StrsAt.nil _ _
  · exact rowT_strs h rfl (fun j hj => by rw [List.getElem?_map, List.getD_eq_getElem?_getD, List.getElem?_eq_getElem hj]; rfl) (Nat.le_trans h.room.1 h.room.2)
theorem OwnT.bare {w : World} {base cap : Nat} {a : Option Addr} {L : List ByteArray} (h : OwnT w base a cap L) : a = none → cap = 0 := by
  intro e
  subst e
  rcases h.2 with ⟨h0, h1⟩ | ⟨g, c, cur, he, _⟩
  · simp only [Value.slice.injEq] at h0; exact h0.2.2
  · cases he
theorem OwnT.kept {w w' : World} {base cap : Nat} {a : Option Addr} {L : List ByteArray} (h : OwnT w base a cap L) (hg : w.grownBy w' none) : OwnT w' base a cap L := World.ownsRow.kept h hg (by cases (Value.slice a L.length cap).ownBlock <;> simp)
theorem OwnT.mono {w : World} {base base' cap : Nat} {a : Option Addr} {L : List ByteArray} (h : OwnT w base a cap L) (hb : base' ≤ base) : OwnT w base' a cap L := by
  refine ⟨h.1, ?_⟩
  rcases h.2 with h | ⟨g, c, cur, h1, h2, h3⟩
  · exact .inl h
  · exact .inr ⟨g, c, cur, h1, Nat.le_trans hb h2, h3⟩

theorem markStringS_any (k base cap : Nat) (a : Option Addr) (L : List ByteArray) (hk : 0 < k ∧ k ≤ 50000000) (hn : L.length ≤ 50000000) (W : World) (h : OwnT W base a cap L) :
    Calls Tryz.prog 36 #[.slice a L.length cap, .int .i64 k] W fun e w' => e = .returned (.int .i64 ((k + L.length : Nat) : Int)) ∧ MarkedT a k L.length W w' := by
  by_cases h0 : L = []
  · subst h0
    refine (markStringS_zero a cap k W).mono ?_
    rintro e w' ⟨rfl, rfl⟩
    exact ⟨by simp, StrsAt.nil _ _, none, by simp, grownBy_refl _ _⟩
  · obtain ⟨g, rfl⟩ := h.way.resolve_left fun q => h0 q.2
    have hpos : 0 < L.length := List.length_pos_iff.2 h0
    refine (markStringS_at k L.length g cap base _ hk hn W h).mono ?_
    rintro e w' ⟨vs, rfl, h1, h2, h3⟩
    refine ⟨rfl, rowT_strs h1 (mkT_len _ _) (fun j hj => by rw [mkT_at k _ j hj]; exact h2 j hj) (Nat.le_trans h.room.1 h.room.2), some g, fun q hq => ?_, h3⟩
    cases hq
    exact ⟨hpos, _, rfl, rfl⟩

def HlRelT (k n : Nat) (w : World) (kv iv : Value) (wr : World) : Prop := ∃ i : Nat, i ≤ n ∧ kv = .int .i64 ((k + i : Nat) : Int) ∧ iv = .int .i64 i ∧ w.grownBy wr none

set_option maxRecDepth 8000 in
set_option maxHeartbeats 2000000 in
theorem heldStringS_any (k n cap : Nat) (a : Option Addr) (hk : 0 < k ∧ k ≤ 50000000) (hn : n ≤ 50000000) (w : World) (hx : StrsAt w a (mkT k n)) :
    Calls Tryz.prog 37 #[.slice a n cap, .int .i64 k] w fun e w' => e = .returned (.int .i64 ((k + n : Nat) : Int)) ∧ w.grownBy w' none := by
  have HX := Lib.hid hx
  clear hx
  go_enter Tryz.func37, Tryz.ntmps37
  go_wp2
  go_loopw [1, 5] (fun kv iv wr => HlRelT k n w kv iv wr) (fun _ iv _ => n - (intOf iv).toNat)
  case atStart => exact ⟨0, by omega, by simp, rfl, grownBy_refl _ _⟩
  case round =>
    obtain ⟨i, hi, rfl, rfl, hgr⟩ := hrel
    have Hgr := Lib.hid hgr
    clear hgr
    by_cases hlt : i < n
    · rcases (HX.out.grown Hgr.out).2 with h0 | ⟨b, off, rfl, hb, hc⟩
      · have := congrArg List.length h0; rw [mkT_len] at this; simp at this; omega
      have c0 := hc i (by rw [mkT_len]; exact hlt)
      rw [mkT_at k n i hlt] at c0
      obtain ⟨K, hK⟩ : ∃ K, K = k + i := ⟨_, rfl⟩
      rw [← hK] at c0
      have cm : ∀ w, Calls Tryz.prog 89 #[.int .i64 (K : Int)] w fun e w' => e = .returned (.string (bs (mtx K))) ∧ w.grownBy w' none := fun w => markText_any K (by omega) (by omega) w
      have hKb : K ≤ 100000000 := by omega
      rw [← hK]
      have HK := Lib.hid hK
      have HC := Lib.hid c0
      clear hc hb hK
      generalize bs (mtx K) = T at *
      have hTT : (T.toList != T.toList) = false := by simp
      go_wp2_with fail
      go_region_with (go_at_call 89; refine (cm _).mono ?_; rintro e w2 ⟨rfl, hg2⟩; have c1' := (drew_grown hg2).cell HC.out (by simp))
      all_goals go_wp2_with fail
      all_goals go_roundw
      all_goals first | (simp [intOf]; omega) | exact ⟨i + 1, by omega, by have := HK.out; congr 1; omega, by go_num, grownBy_trans Hgr.out (drew_grown hg2)⟩
    · obtain rfl : i = n := by omega
      go_wp2
      go_ret
      exact ⟨rfl, Hgr.out⟩

end Go.Proofs.YtlnffpofbfigaaaGreatDoor
