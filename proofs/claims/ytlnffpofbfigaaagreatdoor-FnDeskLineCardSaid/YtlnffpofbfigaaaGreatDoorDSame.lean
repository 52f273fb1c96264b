/-
  Two desks, the same or not: the laws' sameDesk and noDesk.
-/
import Derived.Test.YtlnffpofbfigaaaGreatDoorDDo2
namespace Go.Proofs.YtlnffpofbfigaaaGreatDoor
open Go.RowKit

def sameK (d e : Dk) : Bool := decide (d = e)
theorem sameK_self (d : Dk) : sameK d d = true := by unfold sameK; simp
theorem sameK_of {d e : Dk} (h : d ≠ e) : sameK d e = false := decide_eq_false h
def likeTo (x y : List Ld) (k : Nat) : Prop := ∀ j, j < k → x.getD j nilLd = y.getD j nilLd
theorem like_all {x y : List Ld} (hl : x.length = y.length) (h : likeTo x y x.length) : x = y := by
  apply List.ext_getElem hl
  intro i h1 h2
  have := h i h1
  simpa [List.getD_eq_getElem?_getD, h1, h2] using this
def LkRel (x y : List Ld) (w : World) (i : Value) (wr : World) : Prop := ∃ k : Nat, k ≤ x.length ∧ i = .int .i64 k ∧ likeTo x y k ∧ w.grownBy wr none
theorem eqs_of {x y : Ld} (h : y = x) : (y.1 == x.1) = true ∧ ((bs y.2).toList == (bs x.2).toList) = true := by
  subst h; exact ⟨by simp, by simp⟩
theorem two_desks {w w' : World} {A B : Array Value} {T U : TypeId} (hg : ((w.alloc (.cells A T)).alloc (.cells B U)).grownBy w' none) : CellsAt w' w.heap.size A T ∧ CellsAt w' (w.heap.size + 1) B U :=
  ⟨(CellsAt.first w _ _ _).grown hg, (CellsAt.second w _ _ _).grown hg⟩

set_option maxRecDepth 8000 in
set_option maxHeartbeats 2000000 in
theorem dksame_loop (m : Int) (s : List UInt8) (xs ys : List Ld) (a b : Option Addr) (ca cb : Nat) (w : World) (hx : LdsAt w a xs) (hy : LdsAt w b ys) (hl : ys.length = xs.length) :
    Calls Tryz.prog 18 #[.agg #[.int .i64 m, .string (bs s), .slice a xs.length ca], .agg #[.int .i64 m, .string (bs s), .slice b xs.length cb]] w fun e' w' => e' = .returned (.bool (sameK ((m, s), xs) ((m, s), ys))) ∧ w.grownBy w' none := by
  have hm := hx.1
  unfold maxLen at hm
  have g2 : w.grownBy ((w.alloc (.cells #[.int .i64 m, .string (bs s), .slice a xs.length ca] 32)).alloc (.cells #[.int .i64 m, .string (bs s), .slice b xs.length cb] 32)) none := grownBy_trans (World.grownBy_alloc _ _ none) (World.grownBy_alloc _ _ none)
  have hb := fun w' (hg : World.grownBy _ w' none) => two_desks (w := w) (A := #[.int .i64 m, .string (bs s), .slice a xs.length ca]) (B := #[.int .i64 m, .string (bs s), .slice b xs.length cb]) (T := 32) (U := 32) hg
  have HX := Lib.hid (hx.grown g2)
  have HY := Lib.hid (hy.grown g2)
  have G2 := Lib.hid g2
  have HB := Lib.hid hb
  have HL := Lib.hid hl
  clear hx hy g2 hb hl
  go_enter Tryz.func18, Tryz.ntmps18
  go_wp2
  generalize hw : (w.alloc (.cells #[.int .i64 m, .string (bs s), .slice a xs.length ca] 32)).alloc (.cells #[.int .i64 m, .string (bs s), .slice b xs.length cb] 32) = w2 at *
  go_loopw [5] (fun i wr => LkRel xs ys w2 i wr) (fun i _ => xs.length - (intOf i).toNat)
  case atStart => exact ⟨0, by omega, rfl, fun j hj => absurd hj (by omega), grownBy_refl _ _⟩
  case round =>
    obtain ⟨k, hk, rfl, hup, hgr⟩ := hrel
    obtain ⟨hA, hC⟩ := HB.out _ hgr
    obtain ⟨a0, a1, a2⟩ := hA.three
    obtain ⟨b0, b1, b2⟩ := hC.three
    have Hup := Lib.hid hup
    have Hgr := Lib.hid hgr
    clear hup hgr hA hC
    by_cases hlt : k < xs.length
    · have hx2 := HX.out.grown Hgr.out
      have hy2 := HY.out.grown Hgr.out
      rcases hx2.2 with h0 | ⟨bx, ox, rfl, hbx, hcx⟩
      · rw [h0] at hlt; simp at hlt
      rcases hy2.2 with h0 | ⟨by', oy, rfl, hby, hcy⟩
      · have := HL.out; rw [h0] at this; simp at this; omega
      obtain ⟨x0, x1⟩ := hcx k hlt
      obtain ⟨y0, y1⟩ := hcy k (by have := HL.out; omega)
      clear hcx hcy hx2 hy2 hbx hby
      by_cases he : xs.getD k nilLd = ys.getD k nilLd
      · have hn : Hid (likeTo xs ys (k + 1)) := fun j hj => by
          by_cases q : j = k
          · rw [q]; exact he
          · exact Hup.out j (by omega)
        obtain ⟨q0, q1⟩ := eqs_of he
        generalize xs.getD k nilLd = p at *
        generalize ys.getD k nilLd = r at *
        clear he
        have p0 : (p.1 != r.1) = false := by simp only [bne, q0]; rfl
        go_wp2
        go_quiet (fail)
        go_wp2
        go_roundw
        case rel => exact ⟨k + 1, by omega, by go_num, hn.out, grownBy_drewN Hgr.out _⟩
        case measure => simp [intOf]; omega
      · have hf : Hid (sameK ((m, s), xs) ((m, s), ys) = false) := sameK_of fun q => he (by have e : xs = ys := (Prod.ext_iff.1 q).2; rw [e])
        have hot := other_of he
        generalize xs.getD k nilLd = p at *
        generalize ys.getD k nilLd = r at *
        clear he
        rcases hot with q0 | ⟨q0, q1⟩
        all_goals
          go_wp2
          go_quiet (fail)
          go_wp2
          go_ret
          exact ⟨by rw [hf.out]; rfl, grownBy_trans G2.out (grownBy_drewN Hgr.out _)⟩
    · obtain rfl : k = xs.length := by omega
      have hz : Hid (sameK ((m, s), xs) ((m, s), ys) = true) := by
        have := like_all HL.out.symm Hup.out
        rw [← this]; exact sameK_self _
      go_wp2
      go_ret
      exact ⟨by rw [hz.out]; first | rfl | trace_state, grownBy_trans G2.out Hgr.out⟩

set_option maxRecDepth 8000 in
set_option maxHeartbeats 2000000 in
theorem dksame_len (m : Int) (s : List UInt8) (xs ys : List Ld) (a b : Option Addr) (ca cb : Nat) (w : World) (hl : ¬ xs.length = ys.length) :
    Calls Tryz.prog 18 #[.agg #[.int .i64 m, .string (bs s), .slice a xs.length ca], .agg #[.int .i64 m, .string (bs s), .slice b ys.length cb]] w fun e' w' => e' = .returned (.bool false) ∧ w.grownBy w' none := by

  have hq : ((xs.length : Int) != (ys.length : Int)) = true := by simp; omega
  have g2 : w.grownBy ((w.alloc (.cells #[.int .i64 m, .string (bs s), .slice a xs.length ca] 32)).alloc (.cells #[.int .i64 m, .string (bs s), .slice b ys.length cb] 32)) none := grownBy_trans (World.grownBy_alloc _ _ none) (World.grownBy_alloc _ _ none)
  have G2 := Lib.hid g2
  clear g2
  go_enter Tryz.func18, Tryz.ntmps18
  go_wp2
  go_ret
  exact ⟨rfl, G2.out⟩
set_option maxRecDepth 8000 in
set_option maxHeartbeats 2000000 in
theorem dksame_now (m k : Int) (s u : List UInt8) (xs ys : List Ld) (a b : Option Addr) (ca cb : Nat) (w : World) (hq : (m == k) = false ∨ (m = k ∧ ((bs s).toList == (bs u).toList) = false)) :
    Calls Tryz.prog 18 #[.agg #[.int .i64 m, .string (bs s), .slice a xs.length ca], .agg #[.int .i64 k, .string (bs u), .slice b ys.length cb]] w fun e' w' => e' = .returned (.bool false) ∧ w.grownBy w' none := by
  have g2 : w.grownBy ((w.alloc (.cells #[.int .i64 m, .string (bs s), .slice a xs.length ca] 32)).alloc (.cells #[.int .i64 k, .string (bs u), .slice b ys.length cb] 32)) none := grownBy_trans (World.grownBy_alloc _ _ none) (World.grownBy_alloc _ _ none)
  have G2 := Lib.hid g2
  clear g2
  rcases hq with hq | ⟨rfl, hq⟩
  all_goals
    go_enter Tryz.func18, Tryz.ntmps18
    go_wp2
    go_ret
    exact ⟨rfl, G2.out⟩
theorem dksame_any (d e : Dk) (a b : Option Addr) (ca cb : Nat) (w : World) (hx : LdsAt w a d.2) (hy : LdsAt w b e.2) :
    Calls Tryz.prog 18 #[dkV d a ca, dkV e b cb] w fun e' w' => e' = .returned (.bool (sameK d e)) ∧ w.grownBy w' none := by
  obtain ⟨⟨m, s⟩, xs⟩ := d
  obtain ⟨⟨k, u⟩, ys⟩ := e
  unfold dkV
  by_cases h1 : (m, s) = (k, u)
  · cases h1
    by_cases h2 : xs.length = ys.length
    · have := dksame_loop m s xs ys a b ca cb w hx hy h2.symm
      rw [h2] at this ⊢
      exact this
    · rw [sameK_of (fun q => h2 (by have e : xs = ys := (Prod.ext_iff.1 q).2; rw [e]))]
      exact dksame_len m s xs ys a b ca cb w h2
  · rw [sameK_of (fun q => h1 (Prod.ext_iff.1 q).1)]
    exact dksame_now m k s u xs ys a b ca cb w (other_of h1)

set_option maxHeartbeats 1000000 in
theorem dkno_any (d : Dk) (a : Option Addr) (ca : Nat) (w : World) (hx : LdsAt w a d.2) :
    Calls Tryz.prog 22 #[dkV d a ca] w fun e' w' => e' = .returned (.bool (sameK d nilDk)) ∧ w.grownBy w' none := by
  have g1 : w.grownBy (w.alloc (.cells #[.int .i64 d.1.1, .string (bs d.1.2), .slice a d.2.length ca] 32)) none := World.grownBy_alloc _ _ none
  have cc := dksame_any d nilDk a none ca 0 _ (hx.grown g1) (LdsAt.nil _ _)
  have G1 := Lib.hid g1
  clear hx g1
  generalize sameK d nilDk = v at *
  unfold dkV nilDk at *
  change Calls Tryz.prog _ #[.agg #[.int .i64 d.1.1, .string (bs d.1.2), .slice a d.2.length ca], .agg #[.int .i64 0, .string ⟨#[]⟩, .slice none 0 0]] _ _ at cc
  go_enter Tryz.func22, Tryz.ntmps22
  go_wp2_with (first | (go_at_call 18; refine cc.mono ?_; rintro e w' ⟨rfl, hg⟩))
  go_ret
  exact ⟨rfl, grownBy_trans G1.out hg⟩

end Go.Proofs.YtlnffpofbfigaaaGreatDoor
