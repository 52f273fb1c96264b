/-
  Joined out of the texts DWa, DX1, DX2, DX3, DX5, DX6, DX7, DX4, DDkA, DLay, DLay2, DIDo: what each holds is told at its head.
-/
import Derived.Test.YtlnffpofbfigaaaGreatDoorM2175222d
import Derived.Test.YtlnffpofbfigaaaGreatDoorNfc0ce0ae
import Derived.Test.YtlnffpofbfigaaaGreatDoorMcf9295ec
import Derived.Test.YtlnffpofbfigaaaGreatDoorM323050c2
import Derived.Test.YtlnffpofbfigaaaGreatDoorM2359aa93
import Derived.Laws.IdiomStrings
import Derived.Deep.RegionWith
import Derived.Deep.AppendLies

/-
  The walks of FnLaidOk and FnDeskNew.
-/
namespace Go.Proofs.YtlnffpofbfigaaaGreatDoor
open Go.RowKit

theorem IsRow.up {k : IntKind} {w w' : World} {a : Option Addr} {len cap : Nat} {zs : List Int} (h : IsRow k w a len cap zs) (hg : w.grownBy w' none) : IsRow k w' a len cap zs := by
  rcases h with h | ⟨x, h1, h2, h3, h4, h5, h6⟩
  · exact .inl h
  · exact .inr ⟨x, h1, h2, h3, h4, fun i hi => hg.cell (h5 i hi) (by simp), h6⟩
end Go.Proofs.YtlnffpofbfigaaaGreatDoor

/-
  The exact laws of LaidOk and DeskNew: copies of pairs, desks without anything of before.
-/
namespace Go.Proofs.YtlnffpofbfigaaaGreatDoor
open Go.RowKit

theorem szLaid_any (n left : Int) (s : ByteArray) (w : World) (hl : 0 ≤ left ∧ left ≤ 1048576) (hs : s.size ≤ maxLen) :
    Calls Tryz.prog 81 #[.agg #[.int .i64 n, .string s], .int .i64 left] w fun e w' => e = .returned (.int .i64 (if (s.size : Int) ≤ left then left - s.size else -1)) ∧ w.grownBy w' none := by
  have hg := World.grownBy_alloc w (.cells #[.int .i64 n, .string s] 54) none
  unfold maxLen at hs
  have hw : IntKind.i64.wrap (left - (s.size : Int)) = left - (s.size : Int) := IntWalk.i64_in _ (by omega)
  have hw2 : wrap64 (left - (s.size : Int)) = left - (s.size : Int) := by unfold wrap64; omega
  by_cases h : (s.size : Int) ≤ left
  · rw [if_pos h]
    go_enter Tryz.func81, Tryz.ntmps81
    go_wp2
    go_ret
    exact ⟨rfl, hg⟩
  · rw [if_neg h]
    go_enter Tryz.func81, Tryz.ntmps81
    go_wp2
    go_ret
    exact ⟨rfl, hg⟩

set_option maxHeartbeats 1000000 in
theorem toLaid_any (n : Int) (s : ByteArray) (w : World) :
    Calls Tryz.prog 83 #[.agg #[.int .i64 n, .string s]] w fun e w' => e = .returned (.agg #[.int .i64 n, .string s]) ∧ w.grownBy w' none := by
  go_enter Tryz.func83, Tryz.ntmps83
  go_wp2
  exact bodyPost_ret (v := .agg #[.int .i64 n, .string s]) (resLd1 rfl _ rfl ((CellsAt.second w _ _ _).grown (World.grownBy_alloc _ _ none))) rfl ⟨rfl, made3 _ _ _ _⟩

end Go.Proofs.YtlnffpofbfigaaaGreatDoor

/-
  Copies of desks that came in: the laws' szDesk, toDesk; the exact law of DeskOk.
-/
namespace Go.Proofs.YtlnffpofbfigaaaGreatDoor
open Go.RowKit

/-! A row of pairs that was handed in, and its copy. -/
def SzLd (xs : List Ld) (w : World) (i left : Value) (wr : World) : Prop := ∃ (k : Nat) (l : Int), k ≤ xs.length ∧ i = .int .i64 k ∧ left = .int .i64 l ∧ 0 ≤ l ∧ l ≤ 1048576 ∧ w.grownBy wr none
/-- What szLaidS answers with: something below 0, or a number and few pairs. -/
def SzPost (xs : List Ld) (w : World) (e : Ending) (w' : World) : Prop := ∃ v : Int, e = .returned (.int .i64 v) ∧ (v < 0 ∨ (0 ≤ v ∧ v ≤ 1048576 ∧ xs.length ≤ 1048576)) ∧ w.grownBy w' none

set_option maxRecDepth 8000 in
set_option maxHeartbeats 2000000 in
theorem szLaidS_any (left : Int) (a : Option Addr) (cap : Nat) (xs : List Ld) (w : World) (hl : 0 ≤ left ∧ left ≤ 1048576) (h : LdsAt w a xs) (hz : ∀ x ∈ xs, x.2.length ≤ maxLen) :
    Calls Tryz.prog 82 #[.slice a xs.length cap, .int .i64 left] w (SzPost xs w) := by
  have hm := h.1
  unfold maxLen at hm
  have hw2 : wrap64 (left - (xs.length : Int)) = left - (xs.length : Int) := by unfold wrap64; omega
  have H := Lib.hid h
  have HZ := Lib.hid hz
  clear h hz
  by_cases hle : (xs.length : Int) ≤ left
  · go_enter Tryz.func82, Tryz.ntmps82
    have hp : 0 ≤ left - (xs.length : Int) := by omega
    go_wp2
    go_loopw [1, 5] (fun l i wr => SzLd xs w i l wr) (fun _ i _ => xs.length - (intOf i).toNat)
    case atStart => exact ⟨0, left - xs.length, by omega, rfl, rfl, by omega, by omega, grownBy_refl _ _⟩
    case round =>
      obtain ⟨k, l, hk, rfl, rfl, hl0, hl1, hgr⟩ := hrel
      by_cases hlt : k < xs.length
      · have hx2 := H.out.grown hgr
        rcases hx2.2 with h0 | ⟨bx, ox, rfl, hbx, hcx⟩
        · rw [h0] at hlt; simp at hlt
        obtain ⟨c0, c1⟩ := hcx k hlt
        have hzk : (xs.getD k nilLd).2.length ≤ maxLen := HZ.out _ (getLd_mem hlt)
        clear hx2 hcx hbx
        generalize xs.getD k nilLd = q at *
        have cs := fun w => szLaid_any q.1 l (bs q.2) w ⟨hl0, hl1⟩ (by rw [bs_size]; exact hzk)
        have Hgr := Lib.hid hgr
        clear hgr
        by_cases hq : ((bs q.2).size : Int) ≤ l
        · simp only [if_pos hq] at cs
          have hq0 : 0 ≤ l - ((bs q.2).size : Int) := by omega
          go_wp2_with (first | (go_at_call 81; refine (cs _).mono ?_; rintro e w' ⟨rfl, hg⟩))
          go_roundw
          case rel => exact ⟨k + 1, l - ((bs q.2).size : Int), by omega, by go_num, rfl, hq0, by omega, grownBy_trans Hgr.out hg⟩
          case measure => simp [intOf]; omega
        · simp only [if_neg hq] at cs
          go_wp2_with (first | (go_at_call 81; refine (cs _).mono ?_; rintro e w' ⟨rfl, hg⟩))
          go_ret
          exact ⟨_, rfl, .inl (by decide), grownBy_trans Hgr.out hg⟩
      · obtain rfl : k = xs.length := by omega
        have Hgr := Lib.hid hgr
        clear hgr
        go_wp2
        go_ret
        exact ⟨l, rfl, .inr ⟨hl0, hl1, by omega⟩, Hgr.out⟩
  · go_enter Tryz.func82, Tryz.ntmps82
    go_wp2
    go_ret
    exact ⟨_, rfl, .inl (by omega), grownBy_refl _ _⟩

def CpLd (g : Nat) (xs : List Ld) (w : World) (i : Value) (wr : World) : Prop :=
  ∃ (k : Nat) (vs : List Value), k ≤ xs.length ∧ i = .int .i64 k ∧ wr.ownsRow w.heap.size 29 2 (.slice (some ⟨g, 0, none⟩) xs.length xs.length) xs.length vs ∧ (∀ j, j < k → vs[j * 2]? = some (.int .i64 (xs.getD j nilLd).1) ∧ vs[j * 2 + 1]? = some (.string (bs (xs.getD j nilLd).2))) ∧ w.grownBy wr none
theorem own2_copied {g : Nat} {xs : List Ld} {w wr : World} {vs : List Value} (h : wr.ownsRow w.heap.size 29 2 (.slice (some ⟨g, 0, none⟩) xs.length xs.length) xs.length vs) (hx : ∀ j, j < xs.length → vs[j * 2]? = some (.int .i64 (xs.getD j nilLd).1) ∧ vs[j * 2 + 1]? = some (.string (bs (xs.getD j nilLd).2))) : Own2 wr w.heap.size (some ⟨g, 0, none⟩) xs.length xs := by
  have e : vs = ldC xs := by
    apply List.ext_getElem?
    intro j
    by_cases hj : j < xs.length * 2
    · have hk : j / 2 < xs.length := by omega
      have k1 := hx _ hk
      have k2 := ldC_at xs _ hk
      rcases Nat.mod_two_eq_zero_or_one j with q | q
      · rw [show j = j / 2 * 2 by omega, k1.1, k2.1]
      · rw [show j = j / 2 * 2 + 1 by omega, k1.2, k2.2]
    · rw [List.getElem?_eq_none (by rw [h.1]; omega), List.getElem?_eq_none (by rw [ldC_len]; omega)]
  unfold Own2
  rw [← e]
  exact h

set_option maxRecDepth 8000 in
set_option maxHeartbeats 2000000 in
theorem toLaidS_any (a : Option Addr) (cap : Nat) (xs : List Ld) (hn : xs.length ≤ 100000000) (w : World) (h : LdsAt w a xs) :
    Calls Tryz.prog 84 #[.slice a xs.length cap] w (LdsPost xs w) := by
  obtain ⟨i0, hi, hz0, hz1, hz2⟩ := info_parts infoLd
  have Hh := Lib.hid h
  clear h
  go_enter Tryz.func84, Tryz.ntmps84
  go_wp2_with (at_make; refine wpList_make_full _ rfl _ _ 30 rfl w.heap.size 29 i0 (.agg #[.int .i64 0, .string ⟨#[]⟩]) 2 Tryz.underlying30 hi hz0 hz1 .i64 .i64 _ _ xs.length rfl rfl rfl rfl ?b2 ?b3 (Nat.le_refl _) ?_)
  case b2 => rw [hz2]; omega
  case b3 => unfold maxLen; omega
  intro w0 hown0 hgrow0
  go_wp2
  go_loopw [4] (fun i wr => CpLd w.heap.size xs w i wr) (fun i _ => xs.length - (intOf i).toNat)
  case atStart => exact ⟨0, _, by omega, rfl, hown0, fun j hj => absurd hj (by omega), hgrow0⟩
  case round =>
    obtain ⟨k, vs, hk, rfl, hown, hxs, hgr⟩ := hrel
    by_cases hlt : k < xs.length
    · have hx2 := Hh.out.grown hgr
      rcases hx2.2 with h0 | ⟨bx, ox, rfl, hbx, hcx⟩
      · rw [h0] at hlt; simp at hlt
      obtain ⟨c0, c1⟩ := hcx k hlt
      have ct := fun w => toLaid_any (xs.getD k nilLd).1 (bs (xs.getD k nilLd).2) w
      have hxl := hown.1
      have HO := Lib.hid hown
      have HG := Lib.hid hgr
      have hnew : Hid (∀ (n : Int) (t : ByteArray), n = (xs.getD k nilLd).1 → t = bs (xs.getD k nilLd).2 → ∀ j, j < k + 1 → ((vs.set (k * 2) (.int .i64 n)).set (k * 2 + 1) (.string t))[j * 2]? = some (.int .i64 (xs.getD j nilLd).1) ∧ ((vs.set (k * 2) (.int .i64 n)).set (k * 2 + 1) (.string t))[j * 2 + 1]? = some (.string (bs (xs.getD j nilLd).2))) := by
        rintro n t rfl rfl j hj
        by_cases e : j = k
        · subst e
          refine ⟨?_, ?_⟩
          · rw [List.getElem?_set_ne (by omega), List.getElem?_set_self (by omega)]
          · rw [List.getElem?_set_self (by rw [List.length_set]; omega)]
        · refine ⟨?_, ?_⟩
          · rw [List.getElem?_set_ne (by omega), List.getElem?_set_ne (by omega)]; exact (hxs j (by omega)).1
          · rw [List.getElem?_set_ne (by omega), List.getElem?_set_ne (by omega)]; exact (hxs j (by omega)).2
      have hnw := Lib.hid (hnew.out _ _ rfl rfl)
      clear hown hgr hx2 hcx hbx hxs hnew
      generalize (xs.getD k nilLd).1 = n at *
      generalize bs (xs.getD k nilLd).2 = t at *
      go_wp2_with (first | (go_at_call 83; refine (ct _).mono ?_; rintro e w2 ⟨rfl, hg⟩; have ho2 := HO.out.kept hg (by simp [Value.ownBlock]); have hst := Lib.hid (World.ownsRow.stored ho2 (k * 2) (.int .i64 n)); have hsu := Lib.hid (World.ownsRow.stored hst.out.1 (k * 2 + 1) (.string t)); have hgg := Lib.hid (grow_own2 (grow_own2 (grownBy_trans HG.out hg) ho2 (Nat.le_refl _) hst.out.2) hst.out.1 (Nat.le_refl _) hsu.out.2); have f0 := World.ownsRow.frozenAt ho2 (k * 2); have f1 := World.ownsRow.frozenAt ho2 (k * 2 + 1); have e0 := World.ownsRow.cellAt ho2 (k * 2) (by omega); have e1 := World.ownsRow.cellAt ho2 (k * 2 + 1) (by omega); rw [List.getElem?_eq_getElem (by omega)] at e0 e1; clear ho2))
      go_roundw
      case rel => exact ⟨k + 1, _, by omega, by go_num, hsu.out.1, hnw.out, hgg.out⟩
      case measure => simp [intOf]; omega
    · obtain rfl : k = xs.length := by omega
      have hs := Lib.hid (own2_copied hown hxs)
      have Hg := Lib.hid hgr
      clear hown hxs hgr
      go_wp2
      go_ret
      exact ⟨_, _, rfl, hs.out, Hg.out⟩

end Go.Proofs.YtlnffpofbfigaaaGreatDoor

/-
  Copies of desks that came in, and desks that are equal; the exact law of DeskOk.
-/
namespace Go.Proofs.YtlnffpofbfigaaaGreatDoor
open Go.RowKit

set_option maxHeartbeats 1000000 in
theorem eqLaid_yes (n : Int) (t : ByteArray) (w : World) :
    Calls Tryz.prog 85 #[.agg #[.int .i64 n, .string t], .agg #[.int .i64 n, .string t]] w fun e w' => e = .returned (.bool true) ∧ w.grownBy w' none := by
  go_enter Tryz.func85, Tryz.ntmps85
  go_wp2
  go_ret
  exact ⟨rfl, grownBy_trans (World.grownBy_alloc _ _ none) (World.grownBy_alloc _ _ none)⟩

def EqRel (xs : List Ld) (w : World) (i : Value) (wr : World) : Prop := ∃ k : Nat, k ≤ xs.length ∧ i = .int .i64 k ∧ w.grownBy wr none
set_option maxRecDepth 8000 in
set_option maxHeartbeats 2000000 in
theorem eqLaidS_yes (a b : Option Addr) (ca cb : Nat) (xs : List Ld) (w : World) (hx : LdsAt w a xs) (hy : LdsAt w b xs) :
    Calls Tryz.prog 86 #[.slice a xs.length ca, .slice b xs.length cb] w fun e w' => e = .returned (.bool true) ∧ w.grownBy w' none := by
  have hm := hx.1
  unfold maxLen at hm
  have HX := Lib.hid hx
  have HY := Lib.hid hy
  clear hx hy
  go_enter Tryz.func86, Tryz.ntmps86
  go_wp2
  go_loopw [5] (fun i wr => EqRel xs w i wr) (fun i _ => xs.length - (intOf i).toNat)
  case atStart => exact ⟨0, by omega, rfl, grownBy_refl _ _⟩
  case round =>
    obtain ⟨k, hk, rfl, hgr⟩ := hrel
    have Hgr := Lib.hid hgr
    clear hgr
    by_cases hlt : k < xs.length
    · rcases (HX.out.grown Hgr.out).2 with h0 | ⟨bx, ox, rfl, _, hcx⟩
      · rw [h0] at hlt; simp at hlt
      rcases (HY.out.grown Hgr.out).2 with h0 | ⟨by', oy, rfl, _, hcy⟩
      · rw [h0] at hlt; simp at hlt
      obtain ⟨x0, x1⟩ := hcx k hlt
      obtain ⟨y0, y1⟩ := hcy k hlt
      clear hcx hcy
      generalize xs.getD k nilLd = q at *
      go_wp2_with fail
      go_region_with (go_at_call 85; refine (eqLaid_yes _ _ _).mono ?_; rintro e w' ⟨rfl, hg⟩)
      all_goals go_wp2_with fail
      all_goals go_roundw
      all_goals first | (simp [intOf]; omega) | exact ⟨k + 1, by omega, by go_num, grownBy_trans Hgr.out (drew_grown hg)⟩ | exact ⟨k + 1, by omega, by go_num, grownBy_trans Hgr.out (grownBy_trans (grownBy_drewN (grownBy_refl _ _) _) hg)⟩
    · obtain rfl : k = xs.length := by omega
      go_wp2
      go_ret
      exact ⟨rfl, Hgr.out⟩

/-! Whole desks. -/
set_option maxRecDepth 8000 in
set_option maxHeartbeats 2000000 in
theorem szDesk_any (n : Int) (s : ByteArray) (a : Option Addr) (cap : Nat) (xs : List Ld) (w : World) (h : LdsAt w a xs) (hs : s.size ≤ maxLen) (hz : ∀ x ∈ xs, x.2.length ≤ maxLen) :
    Calls Tryz.prog 28 #[.agg #[.int .i64 n, .string s, .slice a xs.length cap], .int .i64 1048576] w (SzPost xs w) := by
  have g0 := World.grownBy_alloc w (.cells #[.int .i64 n, .string s, .slice a xs.length cap] 57) none
  have HB := Lib.hid (CellsAt.new w #[.int .i64 n, .string s, .slice a xs.length cap] 57)
  have cl := fun w1 (hg : World.grownBy _ w1 none) (l : Int) (hl : 0 ≤ l ∧ l ≤ 1048576) => szLaidS_any l a cap xs w1 hl ((h.grown g0).grown hg) hz
  have cs := fun w => szLaid_any n 1048576 s w (by omega) hs
  have G0 := Lib.hid g0
  clear h hz g0
  by_cases hq : (s.size : Int) ≤ 1048576
  · simp only [if_pos hq] at cs
    have hq0 : 0 ≤ 1048576 - (s.size : Int) := by omega
    go_enter Tryz.func28, Tryz.ntmps28
    go_wp2_with (first | (go_at_call 81; refine (cs _).mono ?_; rintro e w1 ⟨rfl, hg⟩; obtain ⟨b0, b1, b2⟩ := (HB.out.grown hg).three))
    refine (cl _ hg _ ⟨hq0, by omega⟩).mono ?_
    rintro e w2 ⟨v, rfl, hv, hg2⟩
    by_cases hneg : v < 0
    · go_wp2_with fail
      go_ret
      exact ⟨_, rfl, .inl (by decide), grownBy_trans G0.out (grownBy_trans hg hg2)⟩
    · have hv' : 0 ≤ v ∧ v ≤ 1048576 ∧ xs.length ≤ 1048576 := by
        rcases hv with q | q
        · exact absurd q hneg
        · exact q
      have HV := Lib.hid hv'
      clear hv hv'
      go_wp2_with fail
      go_ret
      exact ⟨_, rfl, .inr HV.out, grownBy_trans G0.out (grownBy_trans hg hg2)⟩
  · simp only [if_neg hq] at cs
    go_enter Tryz.func28, Tryz.ntmps28
    go_wp2_with (first | (go_at_call 81; refine (cs _).mono ?_; rintro e w1 ⟨rfl, hg⟩; obtain ⟨b0, b1, b2⟩ := (HB.out.grown hg).three))
    go_ret
    exact ⟨_, rfl, .inl (by decide), grownBy_trans G0.out hg⟩

set_option maxRecDepth 8000 in
set_option maxHeartbeats 2000000 in
theorem eqDesk_yes (n : Int) (s : ByteArray) (a b : Option Addr) (ca cb : Nat) (xs : List Ld) (w : World) (hx : LdsAt w a xs) (hy : LdsAt w b xs) :
    Calls Tryz.prog 30 #[.agg #[.int .i64 n, .string s, .slice a xs.length ca], .agg #[.int .i64 n, .string s, .slice b xs.length cb]] w fun e w' => e = .returned (.bool true) ∧ w.grownBy w' none := by
  have g2 : w.grownBy ((w.alloc (.cells #[.int .i64 n, .string s, .slice a xs.length ca] 32)).alloc (.cells #[.int .i64 n, .string s, .slice b xs.length cb] 32)) none := grownBy_trans (World.grownBy_alloc _ _ none) (World.grownBy_alloc _ _ none)
  have HB := Lib.hid (fun w' (hg : World.grownBy _ w' none) => two_desks (w := w) (A := #[.int .i64 n, .string s, .slice a xs.length ca]) (B := #[.int .i64 n, .string s, .slice b xs.length cb]) (T := 32) (U := 32) hg)
  have cl := fun w' (hg : World.grownBy _ w' none) => eqLaidS_yes a b ca cb xs w' ((hx.grown g2).grown hg) ((hy.grown g2).grown hg)
  have G2 := Lib.hid g2
  clear hx hy g2
  go_enter Tryz.func30, Tryz.ntmps30
  go_wp2_with (first | (go_at_call 85; refine (eqLaid_yes _ _ _).mono ?_; rintro e w1 ⟨rfl, hg⟩; obtain ⟨b0, b1, b2⟩ := (HB.out _ hg).1.three; obtain ⟨c0, c1, c2⟩ := (HB.out _ hg).2.three) | (go_at_call 86; refine (cl _ hg).mono ?_; rintro e w2 ⟨rfl, hg2⟩))
  go_ret
  exact ⟨rfl, grownBy_trans G2.out (grownBy_trans hg hg2)⟩

def T3 (W : World) (h : Nat) (A B C : Array Value) : Prop := CellsAt W h A 57 ∧ CellsAt W (h + 1) B 32 ∧ CellsAt W (h + 1 + 1) C 32
theorem T3.grown {W W' : World} {h : Nat} {A B C : Array Value} (k : T3 W h A B C) (hg : W.grownBy W' none) : T3 W' h A B C := ⟨k.1.grown hg, k.2.1.grown hg, k.2.2.grown hg⟩
theorem T3.set {W : World} {h : Nat} {A B C : Array Value} (k : T3 W h A B C) (i : Nat) (v : Value) : T3 (W.setCell ⟨h + 1 + 1, i, none⟩ v) h A B (C.setIfInBounds i v) :=
  ⟨k.1.kept (grownBy_set W _ i v) (by simp; omega), k.2.1.kept (grownBy_set W _ i v) (by simp), k.2.2.set i v⟩
theorem T3.facts {W : World} {h : Nat} {u v x u1 v1 x1 u2 v2 x2 : Value} (k : T3 W h #[u, v, x] #[u1, v1, x1] #[u2, v2, x2]) :
    (W.cell? ⟨h, 0, none⟩ = some u ∧ W.cell? ⟨h, 1, none⟩ = some v ∧ W.cell? ⟨h, 2, none⟩ = some x) ∧ (W.cell? ⟨h + 1, 0, none⟩ = some u1 ∧ W.cell? ⟨h + 1, 1, none⟩ = some v1 ∧ W.cell? ⟨h + 1, 2, none⟩ = some x1) ∧ (W.cell? ⟨h + 1 + 1, 0, none⟩ = some u2 ∧ W.cell? ⟨h + 1 + 1, 1, none⟩ = some v2 ∧ W.cell? ⟨h + 1 + 1, 2, none⟩ = some x2) ∧ (W.frozen? ⟨h + 1, 0, none⟩ = false ∧ W.frozen? ⟨h + 1, 1, none⟩ = false ∧ W.frozen? ⟨h + 1, 2, none⟩ = false) ∧ W.frozen? ⟨h + 1 + 1, 0, none⟩ = false ∧ W.frozen? ⟨h + 1 + 1, 1, none⟩ = false ∧ W.frozen? ⟨h + 1 + 1, 2, none⟩ = false :=
  ⟨k.1.three, k.2.1.three, k.2.2.three, ⟨k.2.1.frozen 0, k.2.1.frozen 1, k.2.1.frozen 2⟩, k.2.2.frozen 0, k.2.2.frozen 1, k.2.2.frozen 2⟩

set_option maxRecDepth 8000 in
set_option maxHeartbeats 2000000 in
theorem toDesk_any (n : Int) (s : ByteArray) (a : Option Addr) (cap : Nat) (xs : List Ld) (hn : xs.length ≤ 100000000) (w : World) (h : LdsAt w a xs) :
    Calls Tryz.prog 29 #[.agg #[.int .i64 n, .string s, .slice a xs.length cap]] w fun e w' => ∃ a' cap', e = .returned (.agg #[.int .i64 n, .string s, .slice a' xs.length cap']) ∧ Own2 w' w.heap.size a' cap' xs ∧ w.grownBy w' none := by
  have g3 := made3 w (.cells #[.int .i64 n, .string s, .slice a xs.length cap] 57) (.cells #[.int .i64 0, .string ⟨#[]⟩, .slice none 0 0] 32) (.cells #[.int .i64 0, .string ⟨#[]⟩, .slice none 0 0] 32)
  have ht : T3 (((w.alloc (.cells #[.int .i64 n, .string s, .slice a xs.length cap] 57)).alloc (.cells #[.int .i64 0, .string ⟨#[]⟩, .slice none 0 0] 32)).alloc (.cells #[.int .i64 0, .string ⟨#[]⟩, .slice none 0 0] 32)) w.heap.size #[.int .i64 n, .string s, .slice a xs.length cap] #[.int .i64 0, .string ⟨#[]⟩, .slice none 0 0] #[.int .i64 0, .string ⟨#[]⟩, .slice none 0 0] := ⟨(CellsAt.new w _ _).grown (grownBy_trans (World.grownBy_alloc _ _ none) (World.grownBy_alloc _ _ none)), (CellsAt.second w _ _ _).grown (World.grownBy_alloc _ _ none), CellsAt.third3 w _ _ _ _⟩
  have HT := Lib.hid ht
  have G3 := Lib.hid g3
  have HL := Lib.hid h
  clear h g3 ht
  go_enter Tryz.func29, Tryz.ntmps29
  go_wp2_with fail
  refine (toLaid_any n s _).mono ?_
  rintro e w1 ⟨rfl, hg1⟩
  have k1 := Lib.hid (HT.out.grown hg1)
  have g1 := Lib.hid (grownBy_trans G3.out hg1)
  obtain ⟨⟨a0, a1, a2⟩, ⟨b0, b1, b2⟩, ⟨c0, c1, c2⟩, ⟨f0, f1, f2⟩, f3, f4, f5⟩ := k1.out.facts
  have k2 := Lib.hid (show T3 ((w1.setCell ⟨w.heap.size + 1 + 1, 0, none⟩ (.int .i64 n)).setCell ⟨w.heap.size + 1 + 1, 1, none⟩ (.string s)) w.heap.size #[.int .i64 n, .string s, .slice a xs.length cap] #[.int .i64 0, .string ⟨#[]⟩, .slice none 0 0] #[.int .i64 n, .string s, .slice none 0 0] from (k1.out.set 0 (.int .i64 n)).set 1 (.string s))
  have g2 := Lib.hid (show w.grownBy ((w1.setCell ⟨w.heap.size + 1 + 1, 0, none⟩ (.int .i64 n)).setCell ⟨w.heap.size + 1 + 1, 1, none⟩ (.string s)) none from grownBy_put (grownBy_put g1.out (by omega) 0 _) (by omega) 1 _)
  clear hg1
  go_wp2_with fail
  generalize (w1.setCell ⟨w.heap.size + 1 + 1, 0, none⟩ (.int .i64 n)).setCell ⟨w.heap.size + 1 + 1, 1, none⟩ (.string s) = W2 at *
  have hb2 := k2.out.2.2.lt
  refine (toLaidS_any a cap xs hn W2 (HL.out.grown g2.out)).mono ?_
  rintro e w3 ⟨a', cap', rfl, ho, hg3⟩
  have k3 := Lib.hid (k2.out.grown hg3)
  have g3 := Lib.hid (grownBy_trans g2.out hg3)
  obtain ⟨⟨a0', a1', a2'⟩, ⟨b0', b1', b2'⟩, ⟨c0', c1', c2'⟩, ⟨f0', f1', f2'⟩, f3', f4', f5'⟩ := k3.out.facts
  have k4 := Lib.hid (show T3 (w3.setCell ⟨w.heap.size + 1 + 1, 2, none⟩ (.slice a' xs.length cap')) w.heap.size #[.int .i64 n, .string s, .slice a xs.length cap] #[.int .i64 0, .string ⟨#[]⟩, .slice none 0 0] #[.int .i64 n, .string s, .slice a' xs.length cap'] from k3.out.set 2 (.slice a' xs.length cap'))
  have F := Lib.hid (k4.out.2.1.put3 (.int .i64 n) (.string s) (.slice a' xs.length cap'))
  have O := Lib.hid (((ho.past (grownBy_set w3 (w.heap.size + 1 + 1) 2 (.slice a' xs.length cap')) hb2).past (put3_past _ (w.heap.size + 1) (.int .i64 n) (.string s) (.slice a' xs.length cap')) (by omega)).mono (base' := w.heap.size) (by omega))
  have G := Lib.hid (put3_grown (w.heap.size + 1) (grownBy_put (b := w.heap.size + 1 + 1) g3.out (by omega) 2 (.slice a' xs.length cap')) (by omega) (.int .i64 n) (.string s) (.slice a' xs.length cap'))
  clear ho hg3
  go_wp2_with fail
  exact bodyPost_ret (v := .agg #[.int .i64 n, .string s, .slice a' xs.length cap']) (resDk rfl _ rfl F.out) rfl ⟨a', cap', rfl, O.out, G.out⟩

end Go.Proofs.YtlnffpofbfigaaaGreatDoor

/-
  The laws' markText: the text of a number behind an m.
-/
namespace Go.Proofs.YtlnffpofbfigaaaGreatDoor
open Go.RowKit

def mtx (k : Nat) : List UInt8 := 109 :: decL k
def MtRel (k : Nat) (w : World) (kv ov : Value) (wr : World) : Prop := ∃ (j : Nat) (o : List UInt8), j ≤ k ∧ kv = .int .i64 j ∧ ov = .string (bs o) ∧ (0 < j → decL k = decL j ++ o) ∧ (j = 0 → decL k = o) ∧ o.length ≤ 30 ∧ w.grownBy wr none

set_option maxRecDepth 8000 in
set_option maxHeartbeats 2000000 in
theorem markText_any (k : Nat) (hk : 0 < k) (hk2 : k ≤ 100000000) (w : World) :
    Calls Tryz.prog 89 #[.int .i64 k] w fun e w' => e = .returned (.string (bs (mtx k))) ∧ w.grownBy w' none := by
  go_enter Tryz.func89, Tryz.ntmps89
  go_wp2
  go_loopw [0, 3] (fun kv ov wr => MtRel k w kv ov wr) (fun kv _ _ => (intOf kv).toNat)
  case atStart => exact ⟨k, [], Nat.le_refl _, rfl, rfl, fun _ => by simp, fun h => by omega, by simp, grownBy_refl _ _⟩
  case round =>
    obtain ⟨j, o, hj, rfl, rfl, h1, h0, hl, hgr⟩ := hrel
    have Hgr := Lib.hid hgr
    have H1 := Lib.hid h1
    have H0 := Lib.hid h0
    have hz := bs_size o
    clear hgr h1 h0
    by_cases hp : 0 < j
    · obtain ⟨c, hc⟩ : ∃ c, c = UInt8.ofNat (48 + j % 10) := ⟨_, rfl⟩
      have hb : (c.toNat : Int) = 48 + (j : Int) % 10 := by
        rw [hc, UInt8.toNat_ofNat_of_lt' (by show 48 + j % 10 < 256; omega)]; omega
      have hcv : (convert 22 9 (.slice (some ⟨wr.heap.size, 0, none⟩) 1 1)).run Tryz.prog (wr.alloc (.cells #[.int .u8 (48 + (j : Int) % 10)] 5)) = .ok (.string (bs [c])) (wr.alloc (.cells #[.int .u8 (48 + (j : Int) % 10)] 5)) := by
        refine run_convert_bytes_back _ 22 9 5 ⟨wr.heap.size, 0, none⟩ 1 [c] Tryz.underlying22 Tryz.underlying5 Tryz.underlying9 fun i hi => ?_
        have h0 : i = 0 := by simpa using hi
        subst h0
        rw [add_none]
        show _ = some (Value.int .u8 (c.toNat : Int))
        rw [hb]
        exact (CellsAt.new wr _ _).cell rfl
      have hnew : (0 < j / 10 → decL k = decL (j / 10) ++ (c :: o)) ∧ (j / 10 = 0 → decL k = c :: o) := by
        have e := H1.out hp
        by_cases h10 : j < 10
        · rw [decL_small h10, show 48 + j = 48 + j % 10 by omega, ← hc] at e
          exact ⟨fun h => by omega, fun _ => e⟩
        · rw [decL_great h10, ← hc, List.append_assoc] at e
          exact ⟨fun _ => e, fun h => by omega⟩
      have hlen : (c :: o).length ≤ 30 := by
        have hk9 := decL_len (k := k) (m := 9) (by omega) (by omega)
        by_cases h10 : j / 10 = 0
        · rw [hnew.2 h10] at hk9; omega
        · rw [hnew.1 (by omega), List.length_append] at hk9; omega
      have ho : bs [c] ++ bs o = bs (c :: o) := bs_app _ _
      have hgn := Lib.hid (grownBy_trans Hgr.out (World.grownBy_alloc wr (.cells #[.int .u8 (48 + (j : Int) % 10)] 5) none))
      have hs1 : (bs [c]).size = 1 := rfl
      have HN := Lib.hid hnew
      clear hnew hc hb
      go_wp2
      go_roundw
      case rel => exact ⟨j / 10, c :: o, by omega, by go_num, by rw [← ho], HN.out.1, HN.out.2, hlen, hgn.out⟩
      case measure => simp [intOf]; omega
    · obtain rfl : j = 0 := by omega
      go_wp2
      go_ret
      refine ⟨?_, Hgr.out⟩
      rw [mtx, (show decL k = o from H0.out trivial), show (109 :: o) = [109] ++ o from rfl, ← bs_app]
      rfl

end Go.Proofs.YtlnffpofbfigaaaGreatDoor

/-
  A row of pairs in the call's own memory, marked.
-/
namespace Go.Proofs.YtlnffpofbfigaaaGreatDoor
open Go.RowKit

/-- The pairs that the laws write into a row, from the mark k on. -/
def mkP (k : Nat) (i : Nat) : Ld := (((k + 2 * i : Nat) : Int), mtx (k + 2 * i + 1))
def mkRow (k n : Nat) : List Ld := (List.range n).map (mkP k)
theorem mkRow_len (k n : Nat) : (mkRow k n).length = n := by simp [mkRow]
theorem mkRow_at (k n i : Nat) (h : i < n) : (mkRow k n).getD i nilLd = mkP k i := by simp [mkRow, List.getD_eq_getElem?_getD, h]
/-- The row while it is marked: the first i are. -/
def MkCur (cur : Array Value) (off k n i : Nat) : Prop :=
  (∀ j, j < i → cur[off + j * 2]? = some (.int .i64 (mkP k j).1) ∧ cur[off + j * 2 + 1]? = some (.string (bs (mkP k j).2))) ∧ ∀ j, i ≤ j → j < n → ∃ u v, cur[off + j * 2]? = some u ∧ cur[off + j * 2 + 1]? = some v
theorem MkCur.next {cur : Array Value} {off k n i : Nat} (h : MkCur cur off k n i) (hi : i < n) : MkCur ((cur.setIfInBounds (off + i * 2) (.int .i64 (mkP k i).1)).setIfInBounds (off + i * 2 + 1) (.string (bs (mkP k i).2))) off k n (i + 1) := by
  obtain ⟨u, v, hu, hv⟩ := h.2 i (Nat.le_refl _) hi
  have su := (Array.getElem?_eq_some_iff.1 hu).1
  have sv := (Array.getElem?_eq_some_iff.1 hv).1
  refine ⟨fun j hj => ?_, fun j hj hn => ?_⟩
  · by_cases e : j = i
    · subst e
      refine ⟨?_, ?_⟩
      · rw [Array.getElem?_setIfInBounds_ne (by omega), Array.getElem?_setIfInBounds_self_of_lt su]
      · rw [Array.getElem?_setIfInBounds_self_of_lt (by simpa using sv)]
    · have := h.1 j (by omega)
      refine ⟨?_, ?_⟩
      · rw [Array.getElem?_setIfInBounds_ne (by omega), Array.getElem?_setIfInBounds_ne (by omega)]; exact this.1
      · rw [Array.getElem?_setIfInBounds_ne (by omega), Array.getElem?_setIfInBounds_ne (by omega)]; exact this.2
  · obtain ⟨x, y, h1, h2⟩ := h.2 j (by omega) hn
    refine ⟨x, y, ?_, ?_⟩
    · rw [Array.getElem?_setIfInBounds_ne (by omega), Array.getElem?_setIfInBounds_ne (by omega)]; exact h1
    · rw [Array.getElem?_setIfInBounds_ne (by omega), Array.getElem?_setIfInBounds_ne (by omega)]; exact h2

def MkRelD (k n g off : Nat) (w : World) (kv iv : Value) (wr : World) : Prop :=
  ∃ (i : Nat) (cur : Array Value), i ≤ n ∧ kv = .int .i64 ((k + 2 * i : Nat) : Int) ∧ iv = .int .i64 i ∧ wr.heap[g]? = some (.cells cur 29 (0, 0)) ∧ MkCur cur off k n i ∧ w.grownBy wr (some g)
theorem heap_put {W : World} {g j : Nat} {cur : Array Value} {v : Value} (h : W.heap[g]? = some (.cells cur 29 (0, 0))) : (W.setCell ⟨g, j, none⟩ v).heap[g]? = some (.cells (cur.setIfInBounds j v) 29 (0, 0)) := CellsAt.set (T := 29) h j v

theorem grown_any {a b : World} {row : Option Nat} (h : a.grownBy b none) : a.grownBy b row := ⟨h.os, h.tape, h.output, h.size, fun k hk _ => h.block k hk (by simp)⟩

set_option maxRecDepth 8000 in
set_option maxHeartbeats 2000000 in
theorem markLds_any (k n g off cap : Nat) (cur0 : Array Value) (hk : 0 < k ∧ k ≤ 10000000) (hn : n ≤ 10000000) (w : World) (hg : w.heap[g]? = some (.cells cur0 29 (0, 0))) (hm : MkCur cur0 off k n 0) :
    Calls Tryz.prog 87 #[.slice (some ⟨g, off, none⟩) n cap, .int .i64 k] w fun e w' => ∃ cur, e = .returned (.int .i64 ((k + 2 * n : Nat) : Int)) ∧ w'.heap[g]? = some (.cells cur 29 (0, 0)) ∧ MkCur cur off k n n ∧ w.grownBy w' (some g) := by
  have HG := Lib.hid hg
  have HM := Lib.hid hm
  clear hg hm
  go_enter Tryz.func87, Tryz.ntmps87
  go_wp2
  go_loopw [1, 5] (fun kv iv wr => MkRelD k n g off w kv iv wr) (fun _ iv _ => n - (intOf iv).toNat)
  case atStart => exact ⟨0, cur0, by omega, by simp, rfl, HG.out, HM.out, grownBy_refl _ _⟩
  case round =>
    obtain ⟨i, cur, hi, rfl, rfl, hh, hc, hgr⟩ := hrel
    by_cases hlt : i < n
    · obtain ⟨u, v, hu, hv⟩ := hc.2 i (Nat.le_refl _) hlt
      have c0 : wr.cell? ⟨g, off + i * 2, none⟩ = some u := by rw [cell_of_row wr g _ cur _ (0, 0) hh]; exact hu
      have f0 : wr.frozen? ⟨g, off + i * 2, none⟩ = false := frozen_of_row wr g _ cur _ hh
      have hnx := Lib.hid (hc.next hlt)
      obtain ⟨K, hK⟩ : ∃ K, K = k + 2 * i := ⟨_, rfl⟩
      have hp : Hid (mkP k i = ((K : Int), mtx (K + 1))) := by rw [hK]; rfl
      have hKs : 0 < K ∧ K ≤ 100000000 - 1 := by omega
      have cm : ∀ w, Calls Tryz.prog 89 #[.int .i64 ((K : Int) + 1)] w fun e w' => e = .returned (.string (bs (mtx (K + 1)))) ∧ w.grownBy w' none := fun w => markText_any (K + 1) (by omega) (by omega) w
      have h1 := Lib.hid (heap_put (j := off + i * 2) (v := .int .i64 (K : Int)) hh)
      have hv1 : (cur.setIfInBounds (off + i * 2) (.int .i64 (K : Int)))[off + i * 2 + 1]? = some v := by rw [Array.getElem?_setIfInBounds_ne (by omega)]; exact hv
      have HV1 := Lib.hid hv1
      have G1 := Lib.hid (grownBy_trans hgr (grownBy_set wr g (off + i * 2) (.int .i64 (K : Int))))
      rw [← hK]
      have HK := Lib.hid hK
      clear hh hc hgr hu hv hv1 hK
      go_wp2_with (first | (go_at_call 89; refine (cm _).mono ?_; rintro e w2 ⟨rfl, hg2⟩; have h2 : w2.heap[g]? = _ := (hg2.block g (Array.getElem?_eq_some_iff.1 h1.out).1 (by simp)).trans h1.out; have c1 : w2.cell? ⟨g, off + i * 2 + 1, none⟩ = some v := (by rw [cell_of_row w2 g _ _ _ (0, 0) h2]; exact HV1.out); have f1 : w2.frozen? ⟨g, off + i * 2 + 1, none⟩ = false := frozen_of_row w2 g _ _ _ h2; have h3 := Lib.hid (heap_put (j := off + i * 2 + 1) (v := .string (bs (mtx (K + 1)))) h2); have G3 := Lib.hid (grownBy_trans G1.out (grownBy_trans (grown_any hg2) (grownBy_set w2 g (off + i * 2 + 1) (.string (bs (mtx (K + 1))))))); clear h2 hg2))
      go_roundw
      case rel =>
        have e : ((K : Int) + 1 + 1) = ((k + 2 * (i + 1) : Nat) : Int) := by have := HK.out; omega
        refine ⟨i + 1, _, by omega, by rw [← e], by go_num, h3.out, ?_, G3.out⟩
        have q := hnx.out
        rw [hp.out] at q
        exact q
      case measure => simp [intOf]; omega
    · obtain rfl : i = n := by omega
      have R := Lib.hid (show ∃ cur, wr.heap[g]? = some (.cells cur 29 (0, 0)) ∧ MkCur cur off k i i ∧ w.grownBy wr (some g) from ⟨cur, hh, hc, hgr⟩)
      clear hh hc hgr
      go_wp2
      go_ret
      obtain ⟨cur, h1, h2, h3⟩ := R.out
      exact ⟨cur, rfl, h1, h2, h3⟩

end Go.Proofs.YtlnffpofbfigaaaGreatDoor

/-
  Marked rows of pairs read again; whole desks marked and read again.
-/
namespace Go.Proofs.YtlnffpofbfigaaaGreatDoor
open Go.RowKit

def HlRelD (k n : Nat) (w : World) (kv iv : Value) (wr : World) : Prop := ∃ i : Nat, i ≤ n ∧ kv = .int .i64 ((k + 2 * i : Nat) : Int) ∧ iv = .int .i64 i ∧ w.grownBy wr none

set_option maxRecDepth 8000 in
set_option maxHeartbeats 2000000 in
theorem heldLds_any (k n cap : Nat) (a : Option Addr) (hk : 0 < k ∧ k ≤ 10000000) (hn : n ≤ 10000000) (w : World) (hx : LdsAt w a (mkRow k n)) :
    Calls Tryz.prog 88 #[.slice a n cap, .int .i64 k] w fun e w' => e = .returned (.int .i64 ((k + 2 * n : Nat) : Int)) ∧ w.grownBy w' none := by
  have HX := Lib.hid hx
  clear hx
  go_enter Tryz.func88, Tryz.ntmps88
  go_wp2
  go_loopw [1, 5] (fun kv iv wr => HlRelD k n w kv iv wr) (fun _ iv _ => n - (intOf iv).toNat)
  case atStart => exact ⟨0, by omega, by simp, rfl, grownBy_refl _ _⟩
  case round =>
    obtain ⟨i, hi, rfl, rfl, hgr⟩ := hrel
    have Hgr := Lib.hid hgr
    clear hgr
    by_cases hlt : i < n
    · rcases (HX.out.grown Hgr.out).2 with h0 | ⟨b, off, rfl, hb, hc⟩
      · have := congrArg List.length h0; rw [mkRow_len] at this; simp at this; omega
      obtain ⟨c0, c1⟩ := hc i (by rw [mkRow_len]; exact hlt)
      rw [mkRow_at k n i hlt] at c0 c1
      obtain ⟨K, hK⟩ : ∃ K, K = k + 2 * i := ⟨_, rfl⟩
      have hp : mkP k i = ((K : Int), mtx (K + 1)) := by rw [hK]; rfl
      rw [hp] at c0 c1
      have cm : ∀ w, Calls Tryz.prog 89 #[.int .i64 ((K : Int) + 1)] w fun e w' => e = .returned (.string (bs (mtx (K + 1)))) ∧ w.grownBy w' none := fun w => markText_any (K + 1) (by omega) (by omega) w
      have hKb : K ≤ 100000000 := by omega
      rw [← hK]
      have HK := Lib.hid hK
      have HC := Lib.hid c1
      clear hc hb hK hp
      generalize bs (mtx (K + 1)) = T at *
      go_wp2_with fail
      go_region_with (go_at_call 89; refine (cm _).mono ?_; rintro e w2 ⟨rfl, hg2⟩; have c1' := (drew_grown hg2).cell HC.out (by simp))
      all_goals go_wp2_with fail
      all_goals go_roundw
      all_goals first | (simp [intOf]; omega) | exact ⟨i + 1, by omega, by have := HK.out; congr 1; omega, by go_num, grownBy_trans Hgr.out (drew_grown hg2)⟩
    · obtain rfl : i = n := by omega
      go_wp2
      go_ret
      exact ⟨rfl, Hgr.out⟩

end Go.Proofs.YtlnffpofbfigaaaGreatDoor

/-
  The exact law of DeskNew: a desk without anything of before.
-/
namespace Go.Proofs.YtlnffpofbfigaaaGreatDoor
open Go.RowKit

end Go.Proofs.YtlnffpofbfigaaaGreatDoor

/-
  Ahead of the draw of a desk: what lies where between the deeds.
-/
namespace Go.Proofs.YtlnffpofbfigaaaGreatDoor
open Go.RowKit

def DDPost (r P : Nat) (w : World) (e : Ending) (w' : World) : Prop := ∃ (d : Dk) (a : Option Addr) (cap : Nat), e = .returned (dkV d a cap) ∧ Own2 w' w.heap.size a cap d.2 ∧ Rd w' r (P + 700) ∧ w.grownBy w' (some r)
theorem doR_len {d : Dk} {D : Dd} (h : (doR d D).2 = true) : (doR d D).1.2.length ≤ d.2.length + 1 := by
  unfold doR at h ⊢
  split at h
  · rename_i hd
    rw [if_pos hd]
    cases hq : doD d D with
    | none => rw [hq] at h; cases h
    | some e =>
      show e.2.length ≤ d.2.length + 1
      rcases doD_of hq with ⟨_, p, _, rfl⟩ | ⟨_, y, _, rfl⟩
      · show d.2.dropLast.length ≤ _
        rw [List.length_dropLast]; omega
      · show (capP (d.2 ++ [d.1])).length ≤ _
        unfold capP
        rw [List.length_drop, List.length_append, List.length_singleton]; omega
  · cases h
theorem grown_none {a b : World} {row : Option Nat} (h : a.grownBy b none) : a.grownBy b row := ⟨h.os, h.tape, h.output, h.size, fun k hk _ => h.block k hk (by simp)⟩
/-- A desk that is being made, between the deeds: its block, its row, the drawing. -/
def DkL (w0 : World) (b r P : Nat) (k : Value) (wr : World) : Prop :=
  ∃ (j : Nat) (d : Dk) (a : Option Addr) (cap : Nat), k = .int .i64 j ∧ j ≤ 5 ∧ d.2.length + j ≤ 5 ∧ CellsAt wr b #[.int .i64 d.1.1, .string (bs d.1.2), .slice a d.2.length cap] 32 ∧ Own2 wr w0.heap.size a cap d.2 ∧ Rd wr r (P + 502 - j * 100) ∧ w0.grownBy wr (some r) ∧ CellsAt wr w0.heap.size #[.int .i64 0, .string ⟨#[]⟩, .slice none 0 0] 32
theorem three_facts {W : World} {b : Nat} {u v x : Value} (h : CellsAt W b #[u, v, x] 32) : (W.cell? ⟨b, 0, none⟩ = some u ∧ W.cell? ⟨b, 1, none⟩ = some v ∧ W.cell? ⟨b, 2, none⟩ = some x) ∧ W.frozen? ⟨b, 0, none⟩ = false ∧ W.frozen? ⟨b, 1, none⟩ = false ∧ W.frozen? ⟨b, 2, none⟩ = false := ⟨h.three, h.frozen 0, h.frozen 1, h.frozen 2⟩
theorem Own2.aside {w w' : World} {base b : Nat} {a : Option Addr} {cap : Nat} {zs : List Ld} (h : Own2 w base a cap zs) (hg : w.grownBy w' (.some b)) (hb : b < base) : Own2 w' base a cap zs := h.past hg hb

theorem rd_put {wd w' : World} {r P b : Nat} (hr : Rd wd r P) (hg : wd.grownBy w' (some b)) (hb : r < b) : Rd w' r P := hr.kept fun k hk => hg.block k (by have := hr.lt; omega) (by simp; omega)
theorem grown_put {w wd w' : World} {r b : Nat} (h : w.grownBy wd (some r)) (hg : wd.grownBy w' (some b)) (hb : w.heap.size ≤ b) : w.grownBy w' (some r) :=
  ⟨hg.os.trans h.os, hg.tape.trans h.tape, hg.output.trans h.output, Nat.le_trans h.size hg.size, fun k hk hn => (hg.block k (Nat.lt_of_lt_of_le hk h.size) (by simp; omega)).trans (h.block k hk hn)⟩
def BaseD (w0 : World) (b r Q : Nat) (W : World) (u v x : Value) : Prop := CellsAt W b #[u, v, x] 32 ∧ CellsAt W w0.heap.size #[.int .i64 0, .string ⟨#[]⟩, .slice none 0 0] 32 ∧ Rd W r Q ∧ w0.grownBy W (some r)
theorem BaseD.put {w0 W : World} {b r Q : Nat} {u v x : Value} (h : BaseD w0 b r Q W u v x) (hb : w0.heap.size < b) (hr : r < w0.heap.size) (p q t : Value) : BaseD w0 b r Q (((W.setCell ⟨b, 0, none⟩ p).setCell ⟨b, 1, none⟩ q).setCell ⟨b, 2, none⟩ t) p q t :=
  ⟨h.1.put3 p q t, h.2.1.kept (put3_past W b p q t) (by simp; omega), rd_put h.2.2.1 (put3_past W b p q t) (by omega), grown_put h.2.2.2 (put3_past W b p q t) (by omega)⟩
theorem BaseD.aside {w0 W : World} {b c r Q : Nat} {u v x : Value} (h : BaseD w0 b r Q W u v x) (hc : w0.heap.size < c) (hne : c ≠ b) (hr : r < w0.heap.size) (p q t : Value) : BaseD w0 b r Q (((W.setCell ⟨c, 0, none⟩ p).setCell ⟨c, 1, none⟩ q).setCell ⟨c, 2, none⟩ t) u v x :=
  ⟨h.1.kept (put3_past W c p q t) (by simp; omega), h.2.1.kept (put3_past W c p q t) (by simp; omega), rd_put h.2.2.1 (put3_past W c p q t) (by omega), grown_put h.2.2.2 (put3_past W c p q t) (by omega)⟩
theorem BaseD.alloc {w0 W : World} {b r Q : Nat} {u v x : Value} (h : BaseD w0 b r Q W u v x) (X : Obj) : BaseD w0 b r Q (W.alloc X) u v x :=
  ⟨h.1.grown (World.grownBy_alloc _ _ none), h.2.1.grown (World.grownBy_alloc _ _ none), h.2.2.1.alloc _, grownBy_trans h.2.2.2 (World.grownBy_alloc _ _ _)⟩
theorem Own2.put3 {W : World} {base b : Nat} {a : Option Addr} {cap : Nat} {xs : List Ld} (o : Own2 W base a cap xs) (hB : DkB W b) (p q t : Value) : Own2 (((W.setCell ⟨b, 0, none⟩ p).setCell ⟨b, 1, none⟩ q).setCell ⟨b, 2, none⟩ t) base a cap xs := by
  have := Own2.sets [(0, p), (1, q), (2, t)] W o hB
  simp only [setsO] at this
  exact this
theorem DkL.mk {w0 W : World} {b r Q P j : Nat} {m : Int} {s : List UInt8} {xs : List Ld} {a : Option Addr} {cap : Nat} {k : Value} (h : BaseD w0 b r Q W (.int .i64 m) (.string (bs s)) (.slice a xs.length cap)) (o : Own2 W w0.heap.size a cap xs) (hk : k = .int .i64 j) (hj : j ≤ 5) (hx : xs.length + j ≤ 5) (hQ : Q ≤ P + 502 - j * 100) : DkL w0 b r P k W :=
  ⟨j, ((m, s), xs), a, cap, hk, hj, hx, h.1, o, h.2.2.1.mono hQ, h.2.2.2, h.2.1⟩
/-- What is told of the draw of a deed. -/
def DeedC : Prop := ∀ (w : World) (r P : Nat), Rd w r P → P ≤ 60000 → Calls Tryz.prog 95 #[.pointer (some ⟨r, 0, none⟩)] w fun e w' => ∃ D : Dd, e = .returned (.agg #[.int .i64 D.1, .int .i64 D.2.1, .string (bs D.2.2)]) ∧ D.2.2.length ≤ 100 ∧ Rd w' r (P + 100) ∧ w.grownBy w' (some r)

/-- The model's DeskDo as the draw needs it. -/
theorem sdo_drawn (m : Int) (s : List UInt8) (xs : List Ld) (a : Option Addr) (cap : Nat) (w0 : Nat) (hl : xs.length ≤ 5) (w : World) (D : Dd) (ho : Own2 w w0 a cap xs) (hw : w0 ≤ w.heap.size) :
    Calls Tryz.prog 61 #[.agg #[.int .i64 m, .string (bs s), .slice a xs.length cap], .agg #[.int .i64 D.1, .int .i64 D.2.1, .string (bs D.2.2)]] w fun e w' =>
      ∃ (m2 : Int) (s2 : List UInt8) (xs2 : List Ld) (ok : Bool) (a2 : Option Addr) (cap2 : Nat), e = .returned (.tuple #[.agg #[.int .i64 m2, .string (bs s2), .slice a2 xs2.length cap2], .bool ok]) ∧ (ok = true → xs2.length ≤ xs.length + 1 ∧ Own2 w' w0 a2 cap2 xs2) ∧ w.grownBy w' none := by
  refine (sdo_any ((m, s), xs) D a cap w ho.at ho.bare).mono ?_
  rintro e w' hS
  have hn := doR_len (d := ((m, s), xs)) (D := D)
  generalize doR ((m, s), xs) D = R at *
  obtain ⟨⟨⟨m2, s2⟩, xs2⟩, ok⟩ := R
  obtain ⟨a2, cap2, rfl, _, _, hg, h7⟩ := hS
  refine ⟨m2, s2, xs2, ok, a2, cap2, rfl, fun h => ?_, hg⟩
  have := hn h
  change xs2.length ≤ xs.length + 1 at this
  exact ⟨this, (h7 (by show xs2.length ≤ 7; omega)).mono hw⟩
/-- A new block for a desk ahead of a call and behind it. -/
theorem nf_1 {W0 wb : World} {r : Nat} (hg : (W0.alloc (.cells #[.int .i64 0, .string ⟨#[]⟩, .slice none 0 0] 32)).grownBy wb (some r)) (hr : r < W0.heap.size) : CellsAt wb W0.heap.size #[.int .i64 0, .string ⟨#[]⟩, .slice none 0 0] 32 := (CellsAt.new W0 _ _).kept hg (by simp; omega)
theorem nf_2 {wb wd : World} (hg : (wb.alloc (.cells #[.int .i64 0, .string ⟨#[]⟩, .slice none 0 0] 32)).grownBy wd none) : CellsAt wd wb.heap.size #[.int .i64 0, .string ⟨#[]⟩, .slice none 0 0] 32 := (CellsAt.new wb _ _).grown hg

theorem desk_end {w W : World} {b r Q P : Nat} {m : Int} {s : ByteArray} {a : Option Addr} {cap L : Nat} {xs : List Ld} (h : BaseD w b r Q W (.int .i64 m) (.string s) (.slice a L cap)) (o : Own2 W w.heap.size a cap xs) (hL : L = xs.length) (hr : r < w.heap.size) (hQ : Q ≤ P + 700) :
    CellsAt (((W.setCell ⟨w.heap.size, 0, none⟩ (.int .i64 m)).setCell ⟨w.heap.size, 1, none⟩ (.string s)).setCell ⟨w.heap.size, 2, none⟩ (.slice a L cap)) w.heap.size #[.int .i64 m, .string s, .slice a L cap] 32 ∧ DDPost r P w (.returned (.agg #[.int .i64 m, .string s, .slice a L cap])) (((W.setCell ⟨w.heap.size, 0, none⟩ (.int .i64 m)).setCell ⟨w.heap.size, 1, none⟩ (.string s)).setCell ⟨w.heap.size, 2, none⟩ (.slice a L cap)) := by
  subst hL
  exact ⟨h.2.1.put3 _ _ _, ((m, bl s), xs), a, cap, rfl, o.put3 ⟨_, h.2.1⟩ _ _ _, (rd_put h.2.2.1 (put3_past W _ _ _ _) hr).mono hQ, grown_put h.2.2.2 (put3_past W _ _ _ _) (Nat.le_refl _)⟩
theorem BaseD.set {w0 W : World} {b r Q : Nat} {u v x : Value} (h : BaseD w0 b r Q W u v x) (hb : w0.heap.size < b) (hr : r < w0.heap.size) (i : Nat) (p : Value) : CellsAt (W.setCell ⟨b, i, none⟩ p) w0.heap.size #[.int .i64 0, .string ⟨#[]⟩, .slice none 0 0] 32 ∧ Rd (W.setCell ⟨b, i, none⟩ p) r Q ∧ w0.grownBy (W.setCell ⟨b, i, none⟩ p) (some r) :=
  ⟨h.2.1.kept (grownBy_set W b i p) (by simp; omega), rd_put h.2.2.1 (grownBy_set W b i p) (by omega), grown_put h.2.2.2 (grownBy_set W b i p) (by omega)⟩
theorem beside_own {W W' : World} {base b : Nat} {a : Option Addr} {cap : Nat} {xs : List Ld} {vs : Array Value} (h : CellsAt W b vs 32) (o : Own2 W base a cap xs) (hg : W.grownBy W' (Value.slice a xs.length cap).ownBlock) : CellsAt W' b vs 32 := by
  refine h.kept hg fun e => ?_
  rcases o.2 with ⟨h0, _⟩ | ⟨g, c, cur, he, hb, hgg, _⟩
  · rw [h0] at e; cases e
  · rw [he] at e
    cases e
    unfold CellsAt at h
    rw [hgg] at h
    simp at h
theorem BaseD.own {w0 W W' : World} {b r Q : Nat} {u v x : Value} {a : Option Addr} {cap : Nat} {xs : List Ld} (h : BaseD w0 b r Q W u v x) (o : Own2 W w0.heap.size a cap xs) (hr : r < w0.heap.size) (hg : W.grownBy W' (Value.slice a xs.length cap).ownBlock) : BaseD w0 b r Q W' u v x := by
  have hlt := World.ownsRow.lt o
  refine ⟨beside_own h.1 o hg, beside_own h.2.1 o hg, h.2.2.1.kept fun k hk => hg.block k (by have := h.2.2.1.lt; omega) fun e => ?_, ?_⟩
  · have := hlt k e.symm
    omega
  · have g := h.2.2.2
    exact ⟨hg.os.trans g.os, hg.tape.trans g.tape, hg.output.trans g.output, Nat.le_trans g.size hg.size, fun k hk hn => (hg.block k (Nat.lt_of_lt_of_le hk g.size) (fun e => by have := hlt k e.symm; omega)).trans (g.block k hk hn)⟩

theorem dkB_at {W : World} {b : Nat} {vs : Array Value} (h : CellsAt W b vs 32) : DkB W b := ⟨vs, h⟩

end Go.Proofs.YtlnffpofbfigaaaGreatDoor

/-
  What a deed makes of a desk: impl's back and lay.
-/
namespace Go.Proofs.YtlnffpofbfigaaaGreatDoor
open Go.RowKit

theorem box2 {w w' : World} {u v x : Value} {T : TypeId} (hg : ((w.alloc (.cells #[u, v, x] T)).alloc (.cells #[.int .i64 0, .string ⟨#[]⟩, .slice none 0 0] 32)).grownBy w' none) :
    (w'.cell? ⟨w.heap.size, 0, none⟩ = some u ∧ w'.cell? ⟨w.heap.size, 1, none⟩ = some v ∧ w'.cell? ⟨w.heap.size, 2, none⟩ = some x) ∧ (w'.cell? ⟨w.heap.size + 1, 0, none⟩ = some (.int .i64 0) ∧ w'.cell? ⟨w.heap.size + 1, 1, none⟩ = some (.string ⟨#[]⟩) ∧ w'.cell? ⟨w.heap.size + 1, 2, none⟩ = some (.slice none 0 0)) ∧ (w'.frozen? ⟨w.heap.size + 1, 0, none⟩ = false ∧ w'.frozen? ⟨w.heap.size + 1, 1, none⟩ = false ∧ w'.frozen? ⟨w.heap.size + 1, 2, none⟩ = false) ∧ w.heap.size < w'.heap.size ∧ w.heap.size + 1 < w'.heap.size ∧ Hid (CellsAt w' (w.heap.size + 1) #[.int .i64 0, .string ⟨#[]⟩, .slice none 0 0] 32) := by
  have h1 := (CellsAt.first w (.cells #[.int .i64 0, .string ⟨#[]⟩, .slice none 0 0] 32) #[u, v, x] T).grown hg
  have h2 := (CellsAt.second w (.cells #[u, v, x] T) #[.int .i64 0, .string ⟨#[]⟩, .slice none 0 0] 32).grown hg
  exact ⟨h1.three, h2.three, ⟨h2.frozen 0, h2.frozen 1, h2.frozen 2⟩, h1.lt, h2.lt, h2⟩
theorem back_post {w w' : World} {a : Option Addr} {xs : List Ld} {x : Ld} {cap : Nat} {b : Bool} {u v s : Value} (hg : w.grownBy w' none) (ho : OwnL w' (w.heap.size + 2) a xs) (h0 : a = none → cap = 0) (hu : u = .int .i64 x.1) (hv : v = .string (bs x.2)) (hs : s = .slice a xs.length cap) :
    DoPost ((x, xs), b) w (.returned (.tuple #[.agg #[u, v, s], .bool b])) (((w'.setCell ⟨w.heap.size + 1, 0, none⟩ u).setCell ⟨w.heap.size + 1, 1, none⟩ v).setCell ⟨w.heap.size + 1, 2, none⟩ s) := by
  subst hu hv hs
  exact ⟨a, cap, rfl, (ho.far (put3_past _ _ _ _ _) (by omega)).mono (by omega), h0, put3_grown _ hg (by omega) _ _ _⟩

theorem DoPost.drew {r : Dk × Bool} {w w' : World} {e : Ending} (h : DoPost r w e w') : DoPost r w e w'.drew := by
  obtain ⟨a, cap, he, ho, h0, hg'⟩ := h
  exact ⟨a, cap, he, ho, h0, grownBy_drew hg'⟩

set_option maxRecDepth 8000 in
set_option maxHeartbeats 1000000 in
theorem back_none (m : Int) (s : List UInt8) (a : Option Addr) (cap : Nat) (w : World) (h0 : a = none → cap = 0) :
    Calls Tryz.prog 101 #[.agg #[.int .i64 m, .string (bs s), .slice a 0 cap]] w (DoPost (((m, s), []), false) w) := by
  have g1 : w.grownBy ((w.alloc (.cells #[.int .i64 m, .string (bs s), .slice a 0 cap] 32)).alloc (.cells #[.int .i64 0, .string ⟨#[]⟩, .slice none 0 0] 32)) none := grownBy_trans (World.grownBy_alloc _ _ none) (World.grownBy_alloc _ _ none)
  have cc := copied_any ((m, s), []) a cap ((w.alloc (.cells #[.int .i64 m, .string (bs s), .slice a 0 cap] 32)).alloc (.cells #[.int .i64 0, .string ⟨#[]⟩, .slice none 0 0] 32)) (LdsAt.nil _ _) h0 (by simp)
  rw [size2] at cc
  have G1 := Lib.hid g1
  clear g1 h0
  unfold dkV at cc
  simp only [List.length_nil] at cc
  go_enter Tryz.func101, Tryz.ntmps101
  go_wp2_with (first | (go_at_call 50; refine cc.mono ?_; rintro e w2 ⟨a', cap', rfl, ho, hg⟩; obtain ⟨⟨d0, d1, d2⟩, ⟨r0, r1, r2⟩, ⟨f0, f1, f2⟩, l0, l1, HB⟩ := box2 hg))
  have F := (HB.out.put3 (.int .i64 m) (.string (bs s)) (.slice a' 0 cap')).grown (World.grownBy_alloc _ (.cells #[.int .i64 m, .string (bs s), .slice a' 0 cap'] 32) none)
  have P := (back_post (x := (m, s)) (xs := []) (b := false) (grownBy_trans G1.out hg) ho.l ho.bare rfl rfl rfl).more (World.grownBy_alloc _ (.cells #[.int .i64 m, .string (bs s), .slice a' 0 cap'] 32) none)
  exact bodyPost_ret (v := .tuple #[.agg #[.int .i64 m, .string (bs s), .slice a' 0 cap'], .bool false]) (resDkB (b := .bool false) rfl _ rfl rfl F) rfl P

set_option maxRecDepth 8000 in
set_option maxHeartbeats 1000000 in
theorem back_some (m : Int) (s : List UInt8) (p : Ld) (ys : List Ld) (a : Option Addr) (cap : Nat) (w : World) (h : LdsAt w a (ys ++ [p])) (h0 : a = none → cap = 0) (hl : ys.length + 1 ≤ 8) :
    Calls Tryz.prog 101 #[.agg #[.int .i64 m, .string (bs s), .slice a (ys.length + 1) cap]] w (DoPost ((p, ys), true) w) := by
  have hL : (ys ++ [p]).length = ys.length + 1 := by simp
  have g1 : w.grownBy ((w.alloc (.cells #[.int .i64 m, .string (bs s), .slice a (ys.length + 1) cap] 32)).alloc (.cells #[.int .i64 0, .string ⟨#[]⟩, .slice none 0 0] 32)) none := grownBy_trans (World.grownBy_alloc _ _ none) (World.grownBy_alloc _ _ none)
  have cc := copied_any ((m, s), ys ++ [p]) a cap ((w.alloc (.cells #[.int .i64 m, .string (bs s), .slice a (ys.length + 1) cap] 32)).alloc (.cells #[.int .i64 0, .string ⟨#[]⟩, .slice none 0 0] 32)) (h.grown g1) h0 (by show (ys ++ [p]).length ≤ 9; omega)
  rw [size2] at cc
  have G1 := Lib.hid g1
  clear g1 h0 h
  unfold dkV at cc
  simp only [hL] at cc
  go_enter Tryz.func101, Tryz.ntmps101
  go_wp2_with (first | (go_at_call 50; refine cc.mono ?_; rintro e w2 ⟨a', cap', rfl, ho, hg⟩; obtain ⟨⟨d0, d1, d2⟩, ⟨r0, r1, r2⟩, ⟨f0, f1, f2⟩, l0, l1, HB⟩ := box2 hg; obtain ⟨g, rfl, hgb, hgl, c0, c1, hc1, hc2⟩ := last_at ho; unfold maxLen at hc2))
  have hO := CellsAt.new w2 #[.int .i64 m, .string (bs s), .slice (some ⟨g, 0, none⟩) (ys.length + 1) cap'] 32
  have hW := World.grownBy_alloc w2 (.cells #[.int .i64 m, .string (bs s), .slice (some ⟨g, 0, none⟩) (ys.length + 1) cap'] 32) none
  generalize w2.alloc (.cells #[.int .i64 m, .string (bs s), .slice (some ⟨g, 0, none⟩) (ys.length + 1) cap'] 32) = W at *
  have HR := Lib.hid (HB.out.grown hW)
  have k1 : ∀ W', W.grownBy W' (some (w.heap.size + 1)) → (W'.cell? ⟨w2.heap.size, 0, none⟩ = some (.int .i64 m) ∧ W'.cell? ⟨w2.heap.size, 1, none⟩ = some (.string (bs s)) ∧ W'.cell? ⟨w2.heap.size, 2, none⟩ = some (.slice (some ⟨g, 0, none⟩) (ys.length + 1) cap')) ∧ W'.cell? ⟨g, ys.length * 2, none⟩ = some (.int .i64 p.1) ∧ W'.cell? ⟨g, ys.length * 2 + 1, none⟩ = some (.string (bs p.2)) := fun W' hg' =>
    ⟨(hO.kept hg' (by simp; omega)).three, hg'.cell (hW.cell c0 (by simp)) (by simp; omega), hg'.cell (hW.cell c1 (by simp)) (by simp; omega)⟩
  have K1 := Lib.hid (k1 W.drew (grownBy_drew (grownBy_refl _ _)))
  have K2 := Lib.hid (k1 _ (grownBy_drew (put3_past W (w.heap.size + 1) (.int .i64 p.1) (.string (bs p.2)) (.slice (some ⟨g, 0, none⟩) ys.length cap'))))
  have r0 := HR.out.three.1
  have r1 := HR.out.three.2.1
  have r2 := HR.out.three.2.2
  have f0 := HR.out.frozen 0
  have f1 := HR.out.frozen 1
  have f2 := HR.out.frozen 2
  have P := Lib.hid (back_post (x := p) (xs := ys) (b := true) (u := .int .i64 p.1) (v := .string (bs p.2)) (s := (.slice (some ⟨g, 0, none⟩) ys.length cap')) (grownBy_trans (grownBy_trans G1.out hg) hW) (by have := ho.last; rw [List.dropLast_concat] at this; exact this.kept hW) (by simp) rfl rfl rfl)
  have F := Lib.hid (HR.out.put3 (.int .i64 p.1) (.string (bs p.2)) (.slice (some ⟨g, 0, none⟩) ys.length cap'))
  clear k1 hO hW ho hg d0 d1 d2 c0 c1
  go_region_held_law (fun W' : World => (W'.cell? ⟨w2.heap.size, 0, none⟩ = some (.int .i64 m) ∧ W'.cell? ⟨w2.heap.size, 1, none⟩ = some (.string (bs s)) ∧ W'.cell? ⟨w2.heap.size, 2, none⟩ = some (.slice (some ⟨g, 0, none⟩) (ys.length + 1) cap')) ∧ W'.cell? ⟨g, ys.length * 2, none⟩ = some (.int .i64 p.1) ∧ W'.cell? ⟨g, ys.length * 2 + 1, none⟩ = some (.string (bs p.2))) (first | exact K1.out | exact K2.out) (fail)
  all_goals go_wp2
  all_goals exact bodyPost_ret (v := .tuple #[.agg #[.int .i64 p.1, .string (bs p.2), (.slice (some ⟨g, 0, none⟩) ys.length cap')], .bool true]) (resDkB (b := .bool true) rfl _ rfl rfl F.out) rfl P.out.drew

/-- The world ahead of lay's append: the desk, the pair, the result. -/
def LayB (W : World) (h : Nat) (m : Int) (s : List UInt8) (a : Option Addr) (L cap : Nat) (k : Int) (u : List UInt8) : Prop :=
  CellsAt W h #[.int .i64 m, .string (bs s), .slice a L cap] 32 ∧ CellsAt W (h + 1) #[.int .i64 k, .string (bs u)] 29 ∧ CellsAt W (h + 1 + 1) #[.int .i64 0, .string ⟨#[]⟩, .slice none 0 0] 32
theorem LayB.grown {W W' : World} {h : Nat} {m : Int} {s : List UInt8} {a : Option Addr} {L cap : Nat} {k : Int} {u : List UInt8} (q : LayB W h m s a L cap k u) (hg : W.grownBy W' none) : LayB W' h m s a L cap k u := ⟨q.1.grown hg, q.2.1.grown hg, q.2.2.grown hg⟩
theorem LayB.past {W W' : World} {h : Nat} {m : Int} {s : List UInt8} {a : Option Addr} {L cap : Nat} {k : Int} {u : List UInt8} {row : Option Nat} (q : LayB W h m s a L cap k u) (hg : W.grownBy W' row) (hr : ∀ b, row = some b → h + 2 < b) : LayB W' h m s a L cap k u := by
  refine ⟨q.1.kept hg fun e => ?_, q.2.1.kept hg fun e => ?_, q.2.2.kept hg fun e => ?_⟩
  all_goals
    have := hr _ e.symm
    omega
def LayF (W : World) (h : Nat) (m : Int) (s : List UInt8) (a : Option Addr) (L cap : Nat) (k : Int) (u : List UInt8) : Prop :=
  (W.cell? ⟨h, 0, none⟩ = some (.int .i64 m) ∧ W.cell? ⟨h, 1, none⟩ = some (.string (bs s)) ∧ W.cell? ⟨h, 2, none⟩ = some (.slice a L cap)) ∧ (W.cell? ⟨h + 1, 0, none⟩ = some (.int .i64 k) ∧ W.cell? ⟨h + 1, 1, none⟩ = some (.string (bs u))) ∧ (W.cell? ⟨h + 1 + 1, 0, none⟩ = some (.int .i64 0) ∧ W.cell? ⟨h + 1 + 1, 1, none⟩ = some (.string ⟨#[]⟩) ∧ W.cell? ⟨h + 1 + 1, 2, none⟩ = some (.slice none 0 0)) ∧ W.frozen? ⟨h + 1 + 1, 0, none⟩ = false ∧ W.frozen? ⟨h + 1 + 1, 1, none⟩ = false ∧ W.frozen? ⟨h + 1 + 1, 2, none⟩ = false
theorem LayB.facts {W : World} {h : Nat} {m : Int} {s : List UInt8} {a : Option Addr} {L cap : Nat} {k : Int} {u : List UInt8} (q : LayB W h m s a L cap k u) : LayF W h m s a L cap k u := ⟨q.1.three, q.2.1.pair2, q.2.2.three, q.2.2.frozen 0, q.2.2.frozen 1, q.2.2.frozen 2⟩
theorem layB_new (w : World) (m : Int) (s : List UInt8) (a : Option Addr) (L cap : Nat) (k : Int) (u : List UInt8) :
    LayB (((w.alloc (.cells #[.int .i64 m, .string (bs s), .slice a L cap] 32)).alloc (.cells #[.int .i64 k, .string (bs u)] 29)).alloc (.cells #[.int .i64 0, .string ⟨#[]⟩, .slice none 0 0] 32)) w.heap.size m s a L cap k u :=
  ⟨(CellsAt.new w _ _).grown (grownBy_trans (World.grownBy_alloc _ _ none) (World.grownBy_alloc _ _ none)), (CellsAt.second w _ _ _).grown (World.grownBy_alloc _ _ none), CellsAt.third3 w _ _ _ _⟩

set_option maxRecDepth 8000 in
set_option maxHeartbeats 1000000 in
theorem lay_same (m : Int) (s : List UInt8) (xs : List Ld) (a : Option Addr) (cap : Nat) (w : World) (h : LdsAt w a xs) (h0 : a = none → cap = 0) (hl : xs.length ≤ 8) :
    Calls Tryz.prog 102 #[.agg #[.int .i64 m, .string (bs s), .slice a xs.length cap], .agg #[.int .i64 m, .string (bs s)]] w (DoPost (((m, s), xs), false) w) := by
  have hb := layB_new w m s a xs.length cap m s
  have g3 := made3 w (.cells #[.int .i64 m, .string (bs s), .slice a xs.length cap] 32) (.cells #[.int .i64 m, .string (bs s)] 29) (.cells #[.int .i64 0, .string ⟨#[]⟩, .slice none 0 0] 32)
  have hz := size3 w (.cells #[.int .i64 m, .string (bs s), .slice a xs.length cap] 32) (.cells #[.int .i64 m, .string (bs s)] 29) (.cells #[.int .i64 0, .string ⟨#[]⟩, .slice none 0 0] 32)
  have cc := copied_any ((m, s), xs) a cap _ (h.grown g3) h0 (by show xs.length ≤ 9; omega)
  rw [hz] at cc
  have HB := Lib.hid hb
  have G3 := Lib.hid g3
  clear h hb g3 h0 hz
  unfold dkV at cc
  go_enter Tryz.func102, Tryz.ntmps102
  go_wp2_with (first | (go_at_call 50; refine cc.mono ?_; rintro e w2 ⟨a', cap', rfl, ho, hg⟩; obtain ⟨⟨d0, d1, d2⟩, ⟨e0, e1⟩, ⟨r0, r1, r2⟩, f0, f1, f2⟩ := (HB.out.grown hg).facts))
  have F := (HB.out.grown hg).2.2.put3 (.int .i64 m) (.string (bs s)) (.slice a' xs.length cap')
  have P := do_post (x := (m, s)) (xs := xs) (b := false) (grownBy_trans G3.out hg) ho.l ho.bare rfl rfl rfl
  exact bodyPost_ret (v := .tuple #[.agg #[.int .i64 m, .string (bs s), .slice a' xs.length cap'], .bool false]) (resDkB (b := .bool false) rfl _ rfl rfl F) rfl P

set_option maxRecDepth 8000 in
set_option maxHeartbeats 1000000 in
theorem lay_no (m k : Int) (s u : List UInt8) (xs : List Ld) (a : Option Addr) (cap : Nat) (w : World) (h : LdsAt w a xs) (h0 : a = none → cap = 0) (hl : xs.length ≤ 8) (hq : (k == m) = false ∨ ((bs u).toList == (bs s).toList) = false) (hk : ldB (k, u) = false) :
    Calls Tryz.prog 102 #[.agg #[.int .i64 m, .string (bs s), .slice a xs.length cap], .agg #[.int .i64 k, .string (bs u)]] w (DoPost (((m, s), xs), false) w) := by
  have hb := layB_new w m s a xs.length cap k u
  have g3 := made3 w (.cells #[.int .i64 m, .string (bs s), .slice a xs.length cap] 32) (.cells #[.int .i64 k, .string (bs u)] 29) (.cells #[.int .i64 0, .string ⟨#[]⟩, .slice none 0 0] 32)
  have hz := size3 w (.cells #[.int .i64 m, .string (bs s), .slice a xs.length cap] 32) (.cells #[.int .i64 k, .string (bs u)] 29) (.cells #[.int .i64 0, .string ⟨#[]⟩, .slice none 0 0] 32)
  have cl := ilaid_any (k, u)
  rw [hk] at cl
  unfold ldV at cl
  have cc := fun w1 (hg : World.grownBy _ w1 none) => copied_any ((m, s), xs) a cap w1 ((h.grown g3).grown hg) h0 (by show xs.length ≤ 9; omega)
  have HB := Lib.hid hb
  have G3 := Lib.hid g3
  have HZ := Lib.hid hz
  clear h hb g3 h0 hz hk
  unfold dkV at cc
  rcases hq with hq | hq
  all_goals
    go_enter Tryz.func102, Tryz.ntmps102
    go_wp2_with (first | (go_at_call 78; refine (cl _).mono ?_; rintro e w1 ⟨rfl, hg⟩; obtain ⟨⟨d0, d1, d2⟩, ⟨e0, e1⟩, ⟨r0, r1, r2⟩, f0, f1, f2⟩ := (HB.out.grown hg).facts) | (go_at_call 50; refine (cc _ hg).mono ?_; rintro e w2 ⟨a', cap', rfl, ho, hg2⟩; obtain ⟨⟨d0, d1, d2⟩, ⟨e0, e1⟩, ⟨r0, r1, r2⟩, f0, f1, f2⟩ := ((HB.out.grown hg).grown hg2).facts))
    have F := ((HB.out.grown hg).grown hg2).2.2.put3 (.int .i64 m) (.string (bs s)) (.slice a' xs.length cap')
    have P := do_post (x := (m, s)) (xs := xs) (b := false) (grownBy_trans (grownBy_trans G3.out hg) hg2) (ho.l.mono (by have := hg.size; have := HZ.out; omega)) ho.bare rfl rfl rfl
    exact bodyPost_ret (v := .tuple #[.agg #[.int .i64 m, .string (bs s), .slice a' xs.length cap'], .bool false]) (resDkB (b := .bool false) rfl _ rfl rfl F) rfl P

end Go.Proofs.YtlnffpofbfigaaaGreatDoor

/-
  What a deed makes of a desk: impl's lay where chain or formula become others.
-/
namespace Go.Proofs.YtlnffpofbfigaaaGreatDoor
open Go.RowKit

theorem held_last {A B C D : Prop} (h : A ∧ B ∧ C ∧ D) : D := h.2.2.2
theorem ldclone_in (a : Option Addr) (cap : Nat) (xs : List Ld) (w1 w2 : World) (h : LdsAt w1 a xs) (h0 : a = none → cap = 0) (hl : xs.length ≤ 9) (hg2 : w1.grownBy w2 none) :
    Calls Tryz.prog 97 #[.slice a xs.length cap] w2 fun e w' => ∃ a' cap', e = .returned (.slice a' xs.length cap') ∧ Own2 w' w1.heap.size a' cap' xs ∧ w2.grownBy w' none :=
  (ldclone_any a cap xs w2 (h.grown hg2) h0 hl).mono fun _ _ ⟨a', cap', he, ho, hg⟩ => ⟨a', cap', he, ho.mono hg2.size, hg⟩
/-- At a step of a drawn region: a pair is appended to a row of the call's own. -/
theorem step_append_ld {P : Program} {w : World} {ops : Array Oper} {o : Oper} {act : Act} {K : Act → World → Prop} {Q : Exit → Act → World → Prop} {E : Prop} (hgd : o.guard = none) (s x : Operand) (t : TypeId)
    (ho : o.op = .call { callee := .builtin .append, args := #[s, x], argTypes := #[t, t] }) (w1 : World) {i0 : TypeInfo} (ht : P.underlying t = some (.slice 29)) (hi : P.info? 29 = some i0) (hz0 : i0.zero = some (.agg #[.int .i64 0, .string ⟨#[]⟩])) (hz1 : i0.size = 2) (hz2 : i0.bytes = 24)
    (a1 : Option Addr) (cap1 : Nat) (xs : List Ld) (hs : act.eval s = .slice a1 xs.length cap1) (hown : Own2 w w1.heap.size a1 cap1 xs) (b : Nat) (p : Ld) (c : Nat) (hx : act.eval x = .slice (some ⟨b, 0, none⟩) 1 c) (hb : CellsAt w b #[.int .i64 p.1, .string (bs p.2)] 29) (hl : xs.length ≤ 8) (hG : w1.grownBy w none)
    (h : ∀ a4 cap4 w4, Own2 w4 w1.heap.size a4 cap4 (xs ++ [p]) → w1.grownBy w4 none → K (act.put o.dst (.slice a4 (xs.length + 1) cap4)) w4) :
    if Region.wanted o (yielded ops act.tmps) = true then Oper.wp P o act w K Q else E := by
  obtain ⟨v', w4, hrun, hown', hgrow, _⟩ := run_append_own (P := P) w w1.heap.size t o.type 29 i0 (.agg #[.int .i64 0, .string ⟨#[]⟩]) 2 24 ht hi hz0 hz1 hz2 rfl (by decide) _ _ _ hown ⟨b, 0, none⟩ 1 c (ldC [p]) rfl (World.news_of_block hb) (ldC_one [p]) (by unfold maxLen; omega) (by omega) hG.size
  obtain ⟨a4, cap4, rfl, ho4⟩ := own2_more hown'
  exact step_append_run hgd s x t ho _ _ hs hx _ _ hrun (h a4 cap4 w4 ho4 (grow_own2 hG hown (Nat.le_refl _) hgrow))

set_option maxRecDepth 8000 in
set_option maxHeartbeats 1000000 in
theorem lay_am (m k : Int) (s u : List UInt8) (xs : List Ld) (a : Option Addr) (cap : Nat) (w : World) (h : LdsAt w a xs) (h0 : a = none → cap = 0) (hl : xs.length ≤ 8) (hq : (k == m) = false) (hk : ldB (k, u) = true) (hge : xs.length = 8) :
    Calls Tryz.prog 102 #[.agg #[.int .i64 m, .string (bs s), .slice a xs.length cap], .agg #[.int .i64 k, .string (bs u)]] w (DoPost (((k, u), (xs ++ [(m, s)]).drop 1), true) w) := by
  have hb := layB_new w m s a xs.length cap k u
  have g3 := made3 w (.cells #[.int .i64 m, .string (bs s), .slice a xs.length cap] 32) (.cells #[.int .i64 k, .string (bs u)] 29) (.cells #[.int .i64 0, .string ⟨#[]⟩, .slice none 0 0] 32)
  have hz := size3 w (.cells #[.int .i64 m, .string (bs s), .slice a xs.length cap] 32) (.cells #[.int .i64 k, .string (bs u)] 29) (.cells #[.int .i64 0, .string ⟨#[]⟩, .slice none 0 0] 32)
  have cl := ilaid_any (k, u)
  rw [hk] at cl
  unfold ldV at cl
  obtain ⟨i0, hi, hz0, hz1, hz2⟩ := info_parts infoLd
  have cc := fun w1 (hg : World.grownBy _ w1 none) (w2 : World) (hg2 : w1.grownBy w2 none) => ldclone_in a cap xs w1 w2 ((h.grown g3).grown hg) h0 (by omega) hg2
  have HB := Lib.hid hb
  have G3 := Lib.hid g3
  have HZ := Lib.hid hz
  have HE := Lib.hid hge
  clear h hb g3 h0 hz hk hge
  go_enter Tryz.func102, Tryz.ntmps102
  go_wp2_with (first | (go_at_call 78; refine (cl _).mono ?_; rintro e w1 ⟨rfl, hg⟩; obtain ⟨⟨d0, d1, d2⟩, ⟨e0, e1⟩, ⟨r0, r1, r2⟩, f0, f1, f2⟩ := (HB.out.grown hg).facts))
  have hb3 : w.heap.size + 3 ≤ w1.heap.size := by have := hg.size; have := HZ.out; omega
  have mkS : ∀ w' : World, w1.grownBy w' none → (w'.cell? ⟨w.heap.size, 0, none⟩ = some (.int .i64 m) ∧ w'.cell? ⟨w.heap.size, 1, none⟩ = some (.string (bs s)) ∧ w'.cell? ⟨w.heap.size, 2, none⟩ = some (.slice a xs.length cap) ∧ w1.grownBy w' none) := fun w' hg' => ⟨((HB.out.grown hg).grown hg').facts.1.1, ((HB.out.grown hg).grown hg').facts.1.2.1, ((HB.out.grown hg).grown hg').facts.1.2.2, hg'⟩
  have MS := Lib.hid mkS
  have CC : ∀ w2 : World, w1.grownBy w2 none → Calls Tryz.prog 97 #[.slice a xs.length cap] w2 fun e w' => ∃ a' cap', e = .returned (.slice a' xs.length cap') ∧ Own2 w' w1.heap.size a' cap' xs ∧ w2.grownBy w' none := cc w1 hg
  clear mkS cc
  go_region_held_law (fun w' : World => w'.cell? ⟨w.heap.size, 0, none⟩ = some (.int .i64 m) ∧ w'.cell? ⟨w.heap.size, 1, none⟩ = some (.string (bs s)) ∧ w'.cell? ⟨w.heap.size, 2, none⟩ = some (.slice a xs.length cap) ∧ w1.grownBy w' none) (first | exact MS.out _ (by assumption) | exact MS.out _ (grownBy_drew (grownBy_refl _ _)) | exact MS.out _ (grownBy_trans (held_last (by assumption)) (by assumption)) | exact MS.out _ (grownBy_trans (held_last (by assumption)) (World.grownBy_alloc _ _ none)) | (trace_state; fail)) (first | (go_at_call 97; refine (CC _ (held_last (by assumption))).mono ?_; rintro e w2 ⟨a1, cap1, rfl, ho, hg2⟩) | (refine step_append_ld (by rfl) _ _ _ (by rfl) w1 Tryz.underlying30 hi hz0 hz1 hz2 _ _ xs (by rfl) (by first | exact ho | exact ho.kept (World.grownBy_alloc _ _ none)) _ (m, s) _ (by rfl) (by first | exact CellsAt.new _ _ _ | exact (CellsAt.new _ _ _).grown hg2 | exact (CellsAt.new _ _ _).grown (drew_grown hg2)) (by omega) (held_last (by assumption)) ?_; intro a4 cap4 w4 ho4 hg4))
  all_goals
    obtain ⟨g4, rfl⟩ := ho4.isAt (by simp)
    obtain ⟨hrm, hrM⟩ := ho4.room
    simp only [List.length_append, List.length_singleton] at hrm
    unfold maxLen at hrM
    have BB := Lib.hid ((HB.out.grown hg).grown hg4)
    obtain ⟨⟨d0, d1, d2⟩, ⟨e0, e1⟩, ⟨r0, r1, r2⟩, f0, f1, f2⟩ := BB.out.facts
    have P := Lib.hid (do_post (x := (k, u)) (b := true) (u := .int .i64 k) (v := .string (bs u)) (s := (.slice (some ⟨g4, 2, none⟩) 8 (cap4 - 1))) (grownBy_trans (grownBy_trans G3.out hg) hg4) (ho4.tail.mono (base' := w.heap.size + 3) hb3) (cap := (cap4 - 1)) (by simp) rfl rfl (by rw [(show ((xs ++ [(m, s)]).drop 1).length = 8 by rw [List.length_drop, List.length_append, HE.out]; rfl)])).drew
    have F := Lib.hid (BB.out.2.2.put3 (.int .i64 k) (.string (bs u)) (.slice (some ⟨g4, 2, none⟩) 8 (cap4 - 1)))
    have K1 := Lib.hid (show w4.drew.cell? ⟨w.heap.size + 1, 0, none⟩ = some (.int .i64 k) ∧ w4.drew.cell? ⟨w.heap.size + 1, 1, none⟩ = some (.string (bs u)) from ⟨e0, e1⟩)
    have K2 := Lib.hid (show _ ∧ _ from ((BB.out.2.1.kept (put3_past w4 (w.heap.size + 1 + 1) (.int .i64 k) (.string (bs u)) (.slice (some ⟨g4, 2, none⟩) 8 (cap4 - 1))) (by simp)).grown (grownBy_drew (grownBy_refl _ none))).pair2)
    clear CC MS ho4 hg4
    simp only [HE.out] at *
    have hc1 : ¬ cap4 = 1 := by omega
  all_goals go_wp2
  all_goals go_region_held_law (fun w' : World => w'.cell? ⟨w.heap.size + 1, 0, none⟩ = some (.int .i64 k) ∧ w'.cell? ⟨w.heap.size + 1, 1, none⟩ = some (.string (bs u))) (first | exact K1.out | exact K2.out | (trace_state; fail)) (fail)
  all_goals go_wp2
  all_goals exact bodyPost_ret (v := .tuple #[.agg #[.int .i64 k, .string (bs u), (.slice (some ⟨g4, 2, none⟩) 8 (cap4 - 1))], .bool true]) (resDkB (b := .bool true) rfl _ rfl rfl F.out) rfl P.out

set_option maxRecDepth 8000 in
set_option maxHeartbeats 1000000 in
theorem lay_ak (k : Int) (s u : List UInt8) (xs : List Ld) (a : Option Addr) (cap : Nat) (w : World) (h : LdsAt w a xs) (h0 : a = none → cap = 0) (hl : xs.length ≤ 8) (hq : ((bs u).toList == (bs s).toList) = false) (hk : ldB (k, u) = true) (hge : xs.length = 8) :
    Calls Tryz.prog 102 #[.agg #[.int .i64 k, .string (bs s), .slice a xs.length cap], .agg #[.int .i64 k, .string (bs u)]] w (DoPost (((k, u), (xs ++ [(k, s)]).drop 1), true) w) := by
  have hb := layB_new w k s a xs.length cap k u
  have g3 := made3 w (.cells #[.int .i64 k, .string (bs s), .slice a xs.length cap] 32) (.cells #[.int .i64 k, .string (bs u)] 29) (.cells #[.int .i64 0, .string ⟨#[]⟩, .slice none 0 0] 32)
  have hz := size3 w (.cells #[.int .i64 k, .string (bs s), .slice a xs.length cap] 32) (.cells #[.int .i64 k, .string (bs u)] 29) (.cells #[.int .i64 0, .string ⟨#[]⟩, .slice none 0 0] 32)
  have cl := ilaid_any (k, u)
  rw [hk] at cl
  unfold ldV at cl
  obtain ⟨i0, hi, hz0, hz1, hz2⟩ := info_parts infoLd
  have cc := fun w1 (hg : World.grownBy _ w1 none) (w2 : World) (hg2 : w1.grownBy w2 none) => ldclone_in a cap xs w1 w2 ((h.grown g3).grown hg) h0 (by omega) hg2
  have HB := Lib.hid hb
  have G3 := Lib.hid g3
  have HZ := Lib.hid hz
  have HE := Lib.hid hge
  clear h hb g3 h0 hz hk hge
  go_enter Tryz.func102, Tryz.ntmps102
  go_wp2_with (first | (go_at_call 78; refine (cl _).mono ?_; rintro e w1 ⟨rfl, hg⟩; obtain ⟨⟨d0, d1, d2⟩, ⟨e0, e1⟩, ⟨r0, r1, r2⟩, f0, f1, f2⟩ := (HB.out.grown hg).facts))
  have hb3 : w.heap.size + 3 ≤ w1.heap.size := by have := hg.size; have := HZ.out; omega
  have mkS : ∀ w' : World, w1.grownBy w' none → (w'.cell? ⟨w.heap.size, 0, none⟩ = some (.int .i64 k) ∧ w'.cell? ⟨w.heap.size, 1, none⟩ = some (.string (bs s)) ∧ w'.cell? ⟨w.heap.size, 2, none⟩ = some (.slice a xs.length cap) ∧ w1.grownBy w' none) := fun w' hg' => ⟨((HB.out.grown hg).grown hg').facts.1.1, ((HB.out.grown hg).grown hg').facts.1.2.1, ((HB.out.grown hg).grown hg').facts.1.2.2, hg'⟩
  have MS := Lib.hid mkS
  have CC : ∀ w2 : World, w1.grownBy w2 none → Calls Tryz.prog 97 #[.slice a xs.length cap] w2 fun e w' => ∃ a' cap', e = .returned (.slice a' xs.length cap') ∧ Own2 w' w1.heap.size a' cap' xs ∧ w2.grownBy w' none := cc w1 hg
  clear mkS cc
  go_region_held_law (fun w' : World => w'.cell? ⟨w.heap.size, 0, none⟩ = some (.int .i64 k) ∧ w'.cell? ⟨w.heap.size, 1, none⟩ = some (.string (bs s)) ∧ w'.cell? ⟨w.heap.size, 2, none⟩ = some (.slice a xs.length cap) ∧ w1.grownBy w' none) (first | exact MS.out _ (by assumption) | exact MS.out _ (grownBy_drew (grownBy_refl _ _)) | exact MS.out _ (grownBy_trans (held_last (by assumption)) (by assumption)) | exact MS.out _ (grownBy_trans (held_last (by assumption)) (World.grownBy_alloc _ _ none)) | (trace_state; fail)) (first | (go_at_call 97; refine (CC _ (held_last (by assumption))).mono ?_; rintro e w2 ⟨a1, cap1, rfl, ho, hg2⟩) | (refine step_append_ld (by rfl) _ _ _ (by rfl) w1 Tryz.underlying30 hi hz0 hz1 hz2 _ _ xs (by rfl) (by first | exact ho | exact ho.kept (World.grownBy_alloc _ _ none)) _ (k, s) _ (by rfl) (by first | exact CellsAt.new _ _ _ | exact (CellsAt.new _ _ _).grown hg2 | exact (CellsAt.new _ _ _).grown (drew_grown hg2)) (by omega) (held_last (by assumption)) ?_; intro a4 cap4 w4 ho4 hg4))
  all_goals
    obtain ⟨g4, rfl⟩ := ho4.isAt (by simp)
    obtain ⟨hrm, hrM⟩ := ho4.room
    simp only [List.length_append, List.length_singleton] at hrm
    unfold maxLen at hrM
    have BB := Lib.hid ((HB.out.grown hg).grown hg4)
    obtain ⟨⟨d0, d1, d2⟩, ⟨e0, e1⟩, ⟨r0, r1, r2⟩, f0, f1, f2⟩ := BB.out.facts
    have P := Lib.hid (do_post (x := (k, u)) (b := true) (u := .int .i64 k) (v := .string (bs u)) (s := (.slice (some ⟨g4, 2, none⟩) 8 (cap4 - 1))) (grownBy_trans (grownBy_trans G3.out hg) hg4) (ho4.tail.mono (base' := w.heap.size + 3) hb3) (cap := (cap4 - 1)) (by simp) rfl rfl (by rw [(show ((xs ++ [(k, s)]).drop 1).length = 8 by rw [List.length_drop, List.length_append, HE.out]; rfl)])).drew
    have F := Lib.hid (BB.out.2.2.put3 (.int .i64 k) (.string (bs u)) (.slice (some ⟨g4, 2, none⟩) 8 (cap4 - 1)))
    have K1 := Lib.hid (show w4.drew.cell? ⟨w.heap.size + 1, 0, none⟩ = some (.int .i64 k) ∧ w4.drew.cell? ⟨w.heap.size + 1, 1, none⟩ = some (.string (bs u)) from ⟨e0, e1⟩)
    have K2 := Lib.hid (show _ ∧ _ from ((BB.out.2.1.kept (put3_past w4 (w.heap.size + 1 + 1) (.int .i64 k) (.string (bs u)) (.slice (some ⟨g4, 2, none⟩) 8 (cap4 - 1))) (by simp)).grown (grownBy_drew (grownBy_refl _ none))).pair2)
    clear CC MS ho4 hg4
    simp only [HE.out] at *
    have hc1 : ¬ cap4 = 1 := by omega
  all_goals go_wp2
  all_goals go_region_held_law (fun w' : World => w'.cell? ⟨w.heap.size + 1, 0, none⟩ = some (.int .i64 k) ∧ w'.cell? ⟨w.heap.size + 1, 1, none⟩ = some (.string (bs u))) (first | exact K1.out | exact K2.out | (trace_state; fail)) (fail)
  all_goals go_wp2
  all_goals exact bodyPost_ret (v := .tuple #[.agg #[.int .i64 k, .string (bs u), (.slice (some ⟨g4, 2, none⟩) 8 (cap4 - 1))], .bool true]) (resDkB (b := .bool true) rfl _ rfl rfl F.out) rfl P.out

set_option maxRecDepth 8000 in
set_option maxHeartbeats 1000000 in
theorem lay_bm (m k : Int) (s u : List UInt8) (xs : List Ld) (a : Option Addr) (cap : Nat) (w : World) (h : LdsAt w a xs) (h0 : a = none → cap = 0) (hl : xs.length ≤ 8) (hq : (k == m) = false) (hk : ldB (k, u) = true) (hge : xs.length = 7) :
    Calls Tryz.prog 102 #[.agg #[.int .i64 m, .string (bs s), .slice a xs.length cap], .agg #[.int .i64 k, .string (bs u)]] w (DoPost (((k, u), xs ++ [(m, s)]), true) w) := by
  have hb := layB_new w m s a xs.length cap k u
  have g3 := made3 w (.cells #[.int .i64 m, .string (bs s), .slice a xs.length cap] 32) (.cells #[.int .i64 k, .string (bs u)] 29) (.cells #[.int .i64 0, .string ⟨#[]⟩, .slice none 0 0] 32)
  have hz := size3 w (.cells #[.int .i64 m, .string (bs s), .slice a xs.length cap] 32) (.cells #[.int .i64 k, .string (bs u)] 29) (.cells #[.int .i64 0, .string ⟨#[]⟩, .slice none 0 0] 32)
  have cl := ilaid_any (k, u)
  rw [hk] at cl
  unfold ldV at cl
  obtain ⟨i0, hi, hz0, hz1, hz2⟩ := info_parts infoLd
  have cc := fun w1 (hg : World.grownBy _ w1 none) (w2 : World) (hg2 : w1.grownBy w2 none) => ldclone_in a cap xs w1 w2 ((h.grown g3).grown hg) h0 (by omega) hg2
  have HB := Lib.hid hb
  have G3 := Lib.hid g3
  have HZ := Lib.hid hz
  have HE := Lib.hid hge
  clear h hb g3 h0 hz hk hge
  go_enter Tryz.func102, Tryz.ntmps102
  go_wp2_with (first | (go_at_call 78; refine (cl _).mono ?_; rintro e w1 ⟨rfl, hg⟩; obtain ⟨⟨d0, d1, d2⟩, ⟨e0, e1⟩, ⟨r0, r1, r2⟩, f0, f1, f2⟩ := (HB.out.grown hg).facts))
  have hb3 : w.heap.size + 3 ≤ w1.heap.size := by have := hg.size; have := HZ.out; omega
  have mkS : ∀ w' : World, w1.grownBy w' none → (w'.cell? ⟨w.heap.size, 0, none⟩ = some (.int .i64 m) ∧ w'.cell? ⟨w.heap.size, 1, none⟩ = some (.string (bs s)) ∧ w'.cell? ⟨w.heap.size, 2, none⟩ = some (.slice a xs.length cap) ∧ w1.grownBy w' none) := fun w' hg' => ⟨((HB.out.grown hg).grown hg').facts.1.1, ((HB.out.grown hg).grown hg').facts.1.2.1, ((HB.out.grown hg).grown hg').facts.1.2.2, hg'⟩
  have MS := Lib.hid mkS
  have CC : ∀ w2 : World, w1.grownBy w2 none → Calls Tryz.prog 97 #[.slice a xs.length cap] w2 fun e w' => ∃ a' cap', e = .returned (.slice a' xs.length cap') ∧ Own2 w' w1.heap.size a' cap' xs ∧ w2.grownBy w' none := cc w1 hg
  clear mkS cc
  go_region_held_law (fun w' : World => w'.cell? ⟨w.heap.size, 0, none⟩ = some (.int .i64 m) ∧ w'.cell? ⟨w.heap.size, 1, none⟩ = some (.string (bs s)) ∧ w'.cell? ⟨w.heap.size, 2, none⟩ = some (.slice a xs.length cap) ∧ w1.grownBy w' none) (first | exact MS.out _ (by assumption) | exact MS.out _ (grownBy_drew (grownBy_refl _ _)) | exact MS.out _ (grownBy_trans (held_last (by assumption)) (by assumption)) | exact MS.out _ (grownBy_trans (held_last (by assumption)) (World.grownBy_alloc _ _ none)) | (trace_state; fail)) (first | (go_at_call 97; refine (CC _ (held_last (by assumption))).mono ?_; rintro e w2 ⟨a1, cap1, rfl, ho, hg2⟩) | (refine step_append_ld (by rfl) _ _ _ (by rfl) w1 Tryz.underlying30 hi hz0 hz1 hz2 _ _ xs (by rfl) (by first | exact ho | exact ho.kept (World.grownBy_alloc _ _ none)) _ (m, s) _ (by rfl) (by first | exact CellsAt.new _ _ _ | exact (CellsAt.new _ _ _).grown hg2 | exact (CellsAt.new _ _ _).grown (drew_grown hg2)) (by omega) (held_last (by assumption)) ?_; intro a4 cap4 w4 ho4 hg4))
  all_goals
    obtain ⟨g4, rfl⟩ := ho4.isAt (by simp)
    obtain ⟨hrm, hrM⟩ := ho4.room
    simp only [List.length_append, List.length_singleton] at hrm
    unfold maxLen at hrM
    have BB := Lib.hid ((HB.out.grown hg).grown hg4)
    obtain ⟨⟨d0, d1, d2⟩, ⟨e0, e1⟩, ⟨r0, r1, r2⟩, f0, f1, f2⟩ := BB.out.facts
    have P := Lib.hid (do_post (x := (k, u)) (b := true) (u := .int .i64 k) (v := .string (bs u)) (s := (.slice (some ⟨g4, 0, none⟩) 8 cap4)) (grownBy_trans (grownBy_trans G3.out hg) hg4) (ho4.l.mono (base' := w.heap.size + 3) hb3) (cap := cap4) (by simp) rfl rfl (by rw [(show (xs ++ [(m, s)]).length = 8 by rw [List.length_append, HE.out]; rfl)])).drew
    have F := Lib.hid (BB.out.2.2.put3 (.int .i64 k) (.string (bs u)) (.slice (some ⟨g4, 0, none⟩) 8 cap4))
    have K1 := Lib.hid (show w4.drew.cell? ⟨w.heap.size + 1, 0, none⟩ = some (.int .i64 k) ∧ w4.drew.cell? ⟨w.heap.size + 1, 1, none⟩ = some (.string (bs u)) from ⟨e0, e1⟩)
    have K2 := Lib.hid (show _ ∧ _ from ((BB.out.2.1.kept (put3_past w4 (w.heap.size + 1 + 1) (.int .i64 k) (.string (bs u)) (.slice (some ⟨g4, 0, none⟩) 8 cap4)) (by simp)).grown (grownBy_drew (grownBy_refl _ none))).pair2)
    clear CC MS ho4 hg4
    simp only [HE.out] at *
    have hc0 : ¬ cap4 = 0 := by omega
  all_goals go_wp2
  all_goals go_region_held_law (fun w' : World => w'.cell? ⟨w.heap.size + 1, 0, none⟩ = some (.int .i64 k) ∧ w'.cell? ⟨w.heap.size + 1, 1, none⟩ = some (.string (bs u))) (first | exact K1.out | exact K2.out | (trace_state; fail)) (fail)
  all_goals go_wp2
  all_goals exact bodyPost_ret (v := .tuple #[.agg #[.int .i64 k, .string (bs u), (.slice (some ⟨g4, 0, none⟩) 8 cap4)], .bool true]) (resDkB (b := .bool true) rfl _ rfl rfl F.out) rfl P.out

set_option maxRecDepth 8000 in
set_option maxHeartbeats 1000000 in
theorem lay_bk (k : Int) (s u : List UInt8) (xs : List Ld) (a : Option Addr) (cap : Nat) (w : World) (h : LdsAt w a xs) (h0 : a = none → cap = 0) (hl : xs.length ≤ 8) (hq : ((bs u).toList == (bs s).toList) = false) (hk : ldB (k, u) = true) (hge : xs.length = 7) :
    Calls Tryz.prog 102 #[.agg #[.int .i64 k, .string (bs s), .slice a xs.length cap], .agg #[.int .i64 k, .string (bs u)]] w (DoPost (((k, u), xs ++ [(k, s)]), true) w) := by
  have hb := layB_new w k s a xs.length cap k u
  have g3 := made3 w (.cells #[.int .i64 k, .string (bs s), .slice a xs.length cap] 32) (.cells #[.int .i64 k, .string (bs u)] 29) (.cells #[.int .i64 0, .string ⟨#[]⟩, .slice none 0 0] 32)
  have hz := size3 w (.cells #[.int .i64 k, .string (bs s), .slice a xs.length cap] 32) (.cells #[.int .i64 k, .string (bs u)] 29) (.cells #[.int .i64 0, .string ⟨#[]⟩, .slice none 0 0] 32)
  have cl := ilaid_any (k, u)
  rw [hk] at cl
  unfold ldV at cl
  obtain ⟨i0, hi, hz0, hz1, hz2⟩ := info_parts infoLd
  have cc := fun w1 (hg : World.grownBy _ w1 none) (w2 : World) (hg2 : w1.grownBy w2 none) => ldclone_in a cap xs w1 w2 ((h.grown g3).grown hg) h0 (by omega) hg2
  have HB := Lib.hid hb
  have G3 := Lib.hid g3
  have HZ := Lib.hid hz
  have HE := Lib.hid hge
  clear h hb g3 h0 hz hk hge
  go_enter Tryz.func102, Tryz.ntmps102
  go_wp2_with (first | (go_at_call 78; refine (cl _).mono ?_; rintro e w1 ⟨rfl, hg⟩; obtain ⟨⟨d0, d1, d2⟩, ⟨e0, e1⟩, ⟨r0, r1, r2⟩, f0, f1, f2⟩ := (HB.out.grown hg).facts))
  have hb3 : w.heap.size + 3 ≤ w1.heap.size := by have := hg.size; have := HZ.out; omega
  have mkS : ∀ w' : World, w1.grownBy w' none → (w'.cell? ⟨w.heap.size, 0, none⟩ = some (.int .i64 k) ∧ w'.cell? ⟨w.heap.size, 1, none⟩ = some (.string (bs s)) ∧ w'.cell? ⟨w.heap.size, 2, none⟩ = some (.slice a xs.length cap) ∧ w1.grownBy w' none) := fun w' hg' => ⟨((HB.out.grown hg).grown hg').facts.1.1, ((HB.out.grown hg).grown hg').facts.1.2.1, ((HB.out.grown hg).grown hg').facts.1.2.2, hg'⟩
  have MS := Lib.hid mkS
  have CC : ∀ w2 : World, w1.grownBy w2 none → Calls Tryz.prog 97 #[.slice a xs.length cap] w2 fun e w' => ∃ a' cap', e = .returned (.slice a' xs.length cap') ∧ Own2 w' w1.heap.size a' cap' xs ∧ w2.grownBy w' none := cc w1 hg
  clear mkS cc
  go_region_held_law (fun w' : World => w'.cell? ⟨w.heap.size, 0, none⟩ = some (.int .i64 k) ∧ w'.cell? ⟨w.heap.size, 1, none⟩ = some (.string (bs s)) ∧ w'.cell? ⟨w.heap.size, 2, none⟩ = some (.slice a xs.length cap) ∧ w1.grownBy w' none) (first | exact MS.out _ (by assumption) | exact MS.out _ (grownBy_drew (grownBy_refl _ _)) | exact MS.out _ (grownBy_trans (held_last (by assumption)) (by assumption)) | exact MS.out _ (grownBy_trans (held_last (by assumption)) (World.grownBy_alloc _ _ none)) | (trace_state; fail)) (first | (go_at_call 97; refine (CC _ (held_last (by assumption))).mono ?_; rintro e w2 ⟨a1, cap1, rfl, ho, hg2⟩) | (refine step_append_ld (by rfl) _ _ _ (by rfl) w1 Tryz.underlying30 hi hz0 hz1 hz2 _ _ xs (by rfl) (by first | exact ho | exact ho.kept (World.grownBy_alloc _ _ none)) _ (k, s) _ (by rfl) (by first | exact CellsAt.new _ _ _ | exact (CellsAt.new _ _ _).grown hg2 | exact (CellsAt.new _ _ _).grown (drew_grown hg2)) (by omega) (held_last (by assumption)) ?_; intro a4 cap4 w4 ho4 hg4))
  all_goals
    obtain ⟨g4, rfl⟩ := ho4.isAt (by simp)
    obtain ⟨hrm, hrM⟩ := ho4.room
    simp only [List.length_append, List.length_singleton] at hrm
    unfold maxLen at hrM
    have BB := Lib.hid ((HB.out.grown hg).grown hg4)
    obtain ⟨⟨d0, d1, d2⟩, ⟨e0, e1⟩, ⟨r0, r1, r2⟩, f0, f1, f2⟩ := BB.out.facts
    have P := Lib.hid (do_post (x := (k, u)) (b := true) (u := .int .i64 k) (v := .string (bs u)) (s := (.slice (some ⟨g4, 0, none⟩) 8 cap4)) (grownBy_trans (grownBy_trans G3.out hg) hg4) (ho4.l.mono (base' := w.heap.size + 3) hb3) (cap := cap4) (by simp) rfl rfl (by rw [(show (xs ++ [(k, s)]).length = 8 by rw [List.length_append, HE.out]; rfl)])).drew
    have F := Lib.hid (BB.out.2.2.put3 (.int .i64 k) (.string (bs u)) (.slice (some ⟨g4, 0, none⟩) 8 cap4))
    have K1 := Lib.hid (show w4.drew.cell? ⟨w.heap.size + 1, 0, none⟩ = some (.int .i64 k) ∧ w4.drew.cell? ⟨w.heap.size + 1, 1, none⟩ = some (.string (bs u)) from ⟨e0, e1⟩)
    have K2 := Lib.hid (show _ ∧ _ from ((BB.out.2.1.kept (put3_past w4 (w.heap.size + 1 + 1) (.int .i64 k) (.string (bs u)) (.slice (some ⟨g4, 0, none⟩) 8 cap4)) (by simp)).grown (grownBy_drew (grownBy_refl _ none))).pair2)
    clear CC MS ho4 hg4
    simp only [HE.out] at *
    have hc0 : ¬ cap4 = 0 := by omega
  all_goals go_wp2
  all_goals go_region_held_law (fun w' : World => w'.cell? ⟨w.heap.size + 1, 0, none⟩ = some (.int .i64 k) ∧ w'.cell? ⟨w.heap.size + 1, 1, none⟩ = some (.string (bs u))) (first | exact K1.out | exact K2.out | (trace_state; fail)) (fail)
  all_goals go_wp2
  all_goals exact bodyPost_ret (v := .tuple #[.agg #[.int .i64 k, .string (bs u), (.slice (some ⟨g4, 0, none⟩) 8 cap4)], .bool true]) (resDkB (b := .bool true) rfl _ rfl rfl F.out) rfl P.out

set_option maxRecDepth 8000 in
set_option maxHeartbeats 1000000 in
theorem lay_cm (m k : Int) (s u : List UInt8) (xs : List Ld) (a : Option Addr) (cap : Nat) (w : World) (h : LdsAt w a xs) (h0 : a = none → cap = 0) (hl : xs.length ≤ 8) (hq : (k == m) = false) (hk : ldB (k, u) = true) (hge : xs.length ≤ 6) :
    Calls Tryz.prog 102 #[.agg #[.int .i64 m, .string (bs s), .slice a xs.length cap], .agg #[.int .i64 k, .string (bs u)]] w (DoPost (((k, u), xs ++ [(m, s)]), true) w) := by
  have hb := layB_new w m s a xs.length cap k u
  have g3 := made3 w (.cells #[.int .i64 m, .string (bs s), .slice a xs.length cap] 32) (.cells #[.int .i64 k, .string (bs u)] 29) (.cells #[.int .i64 0, .string ⟨#[]⟩, .slice none 0 0] 32)
  have hz := size3 w (.cells #[.int .i64 m, .string (bs s), .slice a xs.length cap] 32) (.cells #[.int .i64 k, .string (bs u)] 29) (.cells #[.int .i64 0, .string ⟨#[]⟩, .slice none 0 0] 32)
  have cl := ilaid_any (k, u)
  rw [hk] at cl
  unfold ldV at cl
  obtain ⟨i0, hi, hz0, hz1, hz2⟩ := info_parts infoLd
  have cc := fun w1 (hg : World.grownBy _ w1 none) (w2 : World) (hg2 : w1.grownBy w2 none) => ldclone_in a cap xs w1 w2 ((h.grown g3).grown hg) h0 (by omega) hg2
  have HB := Lib.hid hb
  have G3 := Lib.hid g3
  have HZ := Lib.hid hz
  have HE := Lib.hid hge
  clear h hb g3 h0 hz hk hge
  go_enter Tryz.func102, Tryz.ntmps102
  go_wp2_with (first | (go_at_call 78; refine (cl _).mono ?_; rintro e w1 ⟨rfl, hg⟩; obtain ⟨⟨d0, d1, d2⟩, ⟨e0, e1⟩, ⟨r0, r1, r2⟩, f0, f1, f2⟩ := (HB.out.grown hg).facts))
  have hb3 : w.heap.size + 3 ≤ w1.heap.size := by have := hg.size; have := HZ.out; omega
  have mkS : ∀ w' : World, w1.grownBy w' none → (w'.cell? ⟨w.heap.size, 0, none⟩ = some (.int .i64 m) ∧ w'.cell? ⟨w.heap.size, 1, none⟩ = some (.string (bs s)) ∧ w'.cell? ⟨w.heap.size, 2, none⟩ = some (.slice a xs.length cap) ∧ w1.grownBy w' none) := fun w' hg' => ⟨((HB.out.grown hg).grown hg').facts.1.1, ((HB.out.grown hg).grown hg').facts.1.2.1, ((HB.out.grown hg).grown hg').facts.1.2.2, hg'⟩
  have MS := Lib.hid mkS
  have CC : ∀ w2 : World, w1.grownBy w2 none → Calls Tryz.prog 97 #[.slice a xs.length cap] w2 fun e w' => ∃ a' cap', e = .returned (.slice a' xs.length cap') ∧ Own2 w' w1.heap.size a' cap' xs ∧ w2.grownBy w' none := cc w1 hg
  clear mkS cc
  go_region_held_law (fun w' : World => w'.cell? ⟨w.heap.size, 0, none⟩ = some (.int .i64 m) ∧ w'.cell? ⟨w.heap.size, 1, none⟩ = some (.string (bs s)) ∧ w'.cell? ⟨w.heap.size, 2, none⟩ = some (.slice a xs.length cap) ∧ w1.grownBy w' none) (first | exact MS.out _ (by assumption) | exact MS.out _ (grownBy_drew (grownBy_refl _ _)) | exact MS.out _ (grownBy_trans (held_last (by assumption)) (by assumption)) | exact MS.out _ (grownBy_trans (held_last (by assumption)) (World.grownBy_alloc _ _ none)) | (trace_state; fail)) (first | (go_at_call 97; refine (CC _ (held_last (by assumption))).mono ?_; rintro e w2 ⟨a1, cap1, rfl, ho, hg2⟩) | (refine step_append_ld (by rfl) _ _ _ (by rfl) w1 Tryz.underlying30 hi hz0 hz1 hz2 _ _ xs (by rfl) (by first | exact ho | exact ho.kept (World.grownBy_alloc _ _ none)) _ (m, s) _ (by rfl) (by first | exact CellsAt.new _ _ _ | exact (CellsAt.new _ _ _).grown hg2 | exact (CellsAt.new _ _ _).grown (drew_grown hg2)) (by omega) (held_last (by assumption)) ?_; intro a4 cap4 w4 ho4 hg4))
  all_goals
    obtain ⟨g4, rfl⟩ := ho4.isAt (by simp)
    obtain ⟨hrm, hrM⟩ := ho4.room
    simp only [List.length_append, List.length_singleton] at hrm
    unfold maxLen at hrM
    have BB := Lib.hid ((HB.out.grown hg).grown hg4)
    obtain ⟨⟨d0, d1, d2⟩, ⟨e0, e1⟩, ⟨r0, r1, r2⟩, f0, f1, f2⟩ := BB.out.facts
    have P := Lib.hid (do_post (x := (k, u)) (b := true) (u := .int .i64 k) (v := .string (bs u)) (s := (.slice (some ⟨g4, 0, none⟩) (xs.length + 1) cap4)) (grownBy_trans (grownBy_trans G3.out hg) hg4) (ho4.l.mono (base' := w.heap.size + 3) hb3) (cap := cap4) (by simp) rfl rfl (by rw [(show (xs ++ [(m, s)]).length = xs.length + 1 by rw [List.length_append]; rfl)])).drew
    have F := Lib.hid (BB.out.2.2.put3 (.int .i64 k) (.string (bs u)) (.slice (some ⟨g4, 0, none⟩) (xs.length + 1) cap4))
    have K1 := Lib.hid (show w4.drew.cell? ⟨w.heap.size + 1, 0, none⟩ = some (.int .i64 k) ∧ w4.drew.cell? ⟨w.heap.size + 1, 1, none⟩ = some (.string (bs u)) from ⟨e0, e1⟩)
    have K2 := Lib.hid (show _ ∧ _ from ((BB.out.2.1.kept (put3_past w4 (w.heap.size + 1 + 1) (.int .i64 k) (.string (bs u)) (.slice (some ⟨g4, 0, none⟩) (xs.length + 1) cap4)) (by simp)).grown (grownBy_drew (grownBy_refl _ none))).pair2)
    clear CC MS ho4 hg4
    have he6 := HE.out
    have hc0 : ¬ cap4 = 0 := by omega
  all_goals go_wp2
  all_goals go_region_held_law (fun w' : World => w'.cell? ⟨w.heap.size + 1, 0, none⟩ = some (.int .i64 k) ∧ w'.cell? ⟨w.heap.size + 1, 1, none⟩ = some (.string (bs u))) (first | exact K1.out | exact K2.out | (trace_state; fail)) (fail)
  all_goals go_wp2
  all_goals exact bodyPost_ret (v := .tuple #[.agg #[.int .i64 k, .string (bs u), (.slice (some ⟨g4, 0, none⟩) (xs.length + 1) cap4)], .bool true]) (resDkB (b := .bool true) rfl _ rfl rfl F.out) rfl P.out

set_option maxRecDepth 8000 in
set_option maxHeartbeats 1000000 in
theorem lay_ck (k : Int) (s u : List UInt8) (xs : List Ld) (a : Option Addr) (cap : Nat) (w : World) (h : LdsAt w a xs) (h0 : a = none → cap = 0) (hl : xs.length ≤ 8) (hq : ((bs u).toList == (bs s).toList) = false) (hk : ldB (k, u) = true) (hge : xs.length ≤ 6) :
    Calls Tryz.prog 102 #[.agg #[.int .i64 k, .string (bs s), .slice a xs.length cap], .agg #[.int .i64 k, .string (bs u)]] w (DoPost (((k, u), xs ++ [(k, s)]), true) w) := by
  have hb := layB_new w k s a xs.length cap k u
  have g3 := made3 w (.cells #[.int .i64 k, .string (bs s), .slice a xs.length cap] 32) (.cells #[.int .i64 k, .string (bs u)] 29) (.cells #[.int .i64 0, .string ⟨#[]⟩, .slice none 0 0] 32)
  have hz := size3 w (.cells #[.int .i64 k, .string (bs s), .slice a xs.length cap] 32) (.cells #[.int .i64 k, .string (bs u)] 29) (.cells #[.int .i64 0, .string ⟨#[]⟩, .slice none 0 0] 32)
  have cl := ilaid_any (k, u)
  rw [hk] at cl
  unfold ldV at cl
  obtain ⟨i0, hi, hz0, hz1, hz2⟩ := info_parts infoLd
  have cc := fun w1 (hg : World.grownBy _ w1 none) (w2 : World) (hg2 : w1.grownBy w2 none) => ldclone_in a cap xs w1 w2 ((h.grown g3).grown hg) h0 (by omega) hg2
  have HB := Lib.hid hb
  have G3 := Lib.hid g3
  have HZ := Lib.hid hz
  have HE := Lib.hid hge
  clear h hb g3 h0 hz hk hge
  go_enter Tryz.func102, Tryz.ntmps102
  go_wp2_with (first | (go_at_call 78; refine (cl _).mono ?_; rintro e w1 ⟨rfl, hg⟩; obtain ⟨⟨d0, d1, d2⟩, ⟨e0, e1⟩, ⟨r0, r1, r2⟩, f0, f1, f2⟩ := (HB.out.grown hg).facts))
  have hb3 : w.heap.size + 3 ≤ w1.heap.size := by have := hg.size; have := HZ.out; omega
  have mkS : ∀ w' : World, w1.grownBy w' none → (w'.cell? ⟨w.heap.size, 0, none⟩ = some (.int .i64 k) ∧ w'.cell? ⟨w.heap.size, 1, none⟩ = some (.string (bs s)) ∧ w'.cell? ⟨w.heap.size, 2, none⟩ = some (.slice a xs.length cap) ∧ w1.grownBy w' none) := fun w' hg' => ⟨((HB.out.grown hg).grown hg').facts.1.1, ((HB.out.grown hg).grown hg').facts.1.2.1, ((HB.out.grown hg).grown hg').facts.1.2.2, hg'⟩
  have MS := Lib.hid mkS
  have CC : ∀ w2 : World, w1.grownBy w2 none → Calls Tryz.prog 97 #[.slice a xs.length cap] w2 fun e w' => ∃ a' cap', e = .returned (.slice a' xs.length cap') ∧ Own2 w' w1.heap.size a' cap' xs ∧ w2.grownBy w' none := cc w1 hg
  clear mkS cc
  go_region_held_law (fun w' : World => w'.cell? ⟨w.heap.size, 0, none⟩ = some (.int .i64 k) ∧ w'.cell? ⟨w.heap.size, 1, none⟩ = some (.string (bs s)) ∧ w'.cell? ⟨w.heap.size, 2, none⟩ = some (.slice a xs.length cap) ∧ w1.grownBy w' none) (first | exact MS.out _ (by assumption) | exact MS.out _ (grownBy_drew (grownBy_refl _ _)) | exact MS.out _ (grownBy_trans (held_last (by assumption)) (by assumption)) | exact MS.out _ (grownBy_trans (held_last (by assumption)) (World.grownBy_alloc _ _ none)) | (trace_state; fail)) (first | (go_at_call 97; refine (CC _ (held_last (by assumption))).mono ?_; rintro e w2 ⟨a1, cap1, rfl, ho, hg2⟩) | (refine step_append_ld (by rfl) _ _ _ (by rfl) w1 Tryz.underlying30 hi hz0 hz1 hz2 _ _ xs (by rfl) (by first | exact ho | exact ho.kept (World.grownBy_alloc _ _ none)) _ (k, s) _ (by rfl) (by first | exact CellsAt.new _ _ _ | exact (CellsAt.new _ _ _).grown hg2 | exact (CellsAt.new _ _ _).grown (drew_grown hg2)) (by omega) (held_last (by assumption)) ?_; intro a4 cap4 w4 ho4 hg4))
  all_goals
    obtain ⟨g4, rfl⟩ := ho4.isAt (by simp)
    obtain ⟨hrm, hrM⟩ := ho4.room
    simp only [List.length_append, List.length_singleton] at hrm
    unfold maxLen at hrM
    have BB := Lib.hid ((HB.out.grown hg).grown hg4)
    obtain ⟨⟨d0, d1, d2⟩, ⟨e0, e1⟩, ⟨r0, r1, r2⟩, f0, f1, f2⟩ := BB.out.facts
    have P := Lib.hid (do_post (x := (k, u)) (b := true) (u := .int .i64 k) (v := .string (bs u)) (s := (.slice (some ⟨g4, 0, none⟩) (xs.length + 1) cap4)) (grownBy_trans (grownBy_trans G3.out hg) hg4) (ho4.l.mono (base' := w.heap.size + 3) hb3) (cap := cap4) (by simp) rfl rfl (by rw [(show (xs ++ [(k, s)]).length = xs.length + 1 by rw [List.length_append]; rfl)])).drew
    have F := Lib.hid (BB.out.2.2.put3 (.int .i64 k) (.string (bs u)) (.slice (some ⟨g4, 0, none⟩) (xs.length + 1) cap4))
    have K1 := Lib.hid (show w4.drew.cell? ⟨w.heap.size + 1, 0, none⟩ = some (.int .i64 k) ∧ w4.drew.cell? ⟨w.heap.size + 1, 1, none⟩ = some (.string (bs u)) from ⟨e0, e1⟩)
    have K2 := Lib.hid (show _ ∧ _ from ((BB.out.2.1.kept (put3_past w4 (w.heap.size + 1 + 1) (.int .i64 k) (.string (bs u)) (.slice (some ⟨g4, 0, none⟩) (xs.length + 1) cap4)) (by simp)).grown (grownBy_drew (grownBy_refl _ none))).pair2)
    clear CC MS ho4 hg4
    have he6 := HE.out
    have hc0 : ¬ cap4 = 0 := by omega
  all_goals go_wp2
  all_goals go_region_held_law (fun w' : World => w'.cell? ⟨w.heap.size + 1, 0, none⟩ = some (.int .i64 k) ∧ w'.cell? ⟨w.heap.size + 1, 1, none⟩ = some (.string (bs u))) (first | exact K1.out | exact K2.out | (trace_state; fail)) (fail)
  all_goals go_wp2
  all_goals exact bodyPost_ret (v := .tuple #[.agg #[.int .i64 k, .string (bs u), (.slice (some ⟨g4, 0, none⟩) (xs.length + 1) cap4)], .bool true]) (resDkB (b := .bool true) rfl _ rfl rfl F.out) rfl P.out

theorem lay_any (x y : Ld) (xs : List Ld) (a : Option Addr) (cap : Nat) (w : World) (h : LdsAt w a xs) (h0 : a = none → cap = 0) (hl : xs.length ≤ 8) :
    Calls Tryz.prog 102 #[dkV (x, xs) a cap, ldV y] w (DoPost (if ldB y = true ∧ y ≠ x then ((y, capP (xs ++ [x])), true) else ((x, xs), false)) w) := by
  obtain ⟨m, s⟩ := x
  obtain ⟨k, u⟩ := y
  by_cases he : (k, u) = (m, s)
  · rw [if_neg (fun q => q.2 he)]
    cases he
    exact lay_same m s xs a cap w h h0 hl
  have hot := other_of he
  cases hk : ldB (k, u)
  · rw [if_neg (fun q => by simp at q)]
    refine lay_no m k s u xs a cap w h h0 hl ?_ hk
    rcases hot with hq | ⟨_, hq⟩
    · exact .inl hq
    · exact .inr hq
  · rw [if_pos ⟨rfl, he⟩]
    clear he
    by_cases h8 : xs.length = 8
    · rw [capP_nine (by rw [List.length_append, List.length_singleton]; omega)]
      rcases hot with hq | ⟨rfl, hq⟩
      · exact lay_am m k s u xs a cap w h h0 hl hq hk h8
      · exact lay_ak _ s u xs a cap w h h0 hl hq hk h8
    · rw [capP_short (by rw [List.length_append, List.length_singleton]; omega)]
      by_cases h7 : xs.length = 7
      · rcases hot with hq | ⟨rfl, hq⟩
        · exact lay_bm m k s u xs a cap w h h0 hl hq hk h7
        · exact lay_bk _ s u xs a cap w h h0 hl hq hk h7
      · rcases hot with hq | ⟨rfl, hq⟩
        · exact lay_cm m k s u xs a cap w h h0 hl hq hk (by omega)
        · exact lay_ck _ s u xs a cap w h h0 hl hq hk (by omega)

end Go.Proofs.YtlnffpofbfigaaaGreatDoor

/-
  What a deed makes of a desk: impl's DeskDo.
-/
namespace Go.Proofs.YtlnffpofbfigaaaGreatDoor
open Go.RowKit

set_option maxRecDepth 8000 in
set_option maxHeartbeats 1000000 in
theorem ido_bad (x : Ld) (xs : List Ld) (dk dn : Int) (dt : List UInt8) (a : Option Addr) (cap : Nat) (w : World) (h : LdsAt w a xs) (hd : dkB (x, xs) = false) :
    Calls Tryz.prog 52 #[dkV (x, xs) a cap, ddV (dk, dn, dt)] w (DoPost (nilDk, false) w) := by
  have hb := box3_new w (x, xs) a cap dk dn (bs dt)
  have g3 := made3 w (.cells #[.int .i64 x.1, .string (bs x.2), .slice a xs.length cap] 32) (.cells #[.int .i64 dk, .int .i64 dn, .string (bs dt)] 40) (.cells zeroDk 32)
  have hz := size3 w (.cells #[.int .i64 x.1, .string (bs x.2), .slice a xs.length cap] 32) (.cells #[.int .i64 dk, .int .i64 dn, .string (bs dt)] 40) (.cells zeroDk 32)
  have ck := idesk_any (x, xs) a cap _ (h.grown g3)
  rw [hd] at ck
  have HB := Lib.hid hb
  have G3 := Lib.hid g3
  have HZ := Lib.hid hz
  clear h hb g3 hz
  unfold dkV at *
  unfold ddV
  go_enter Tryz.func52, Tryz.ntmps52
  go_wp2_with (first | (go_at_call 23; refine ck.mono ?_; rintro e w1 ⟨rfl, hg⟩; obtain ⟨⟨d0, d1, d2⟩, ⟨e0, e1, e2⟩, ⟨r0, r1, r2⟩, f0, f1, f2⟩ := (HB.out.grown hg).facts))
  have F := (HB.out.grown hg).2.2.put3 (.int .i64 0) (.string ⟨#[]⟩) (.slice none 0 0)
  have P := do_post (x := nilLd) (b := false) (u := .int .i64 0) (v := .string ⟨#[]⟩) (s := .slice none 0 0) (cap := 0) (xs := []) (grownBy_trans G3.out hg) (OwnL.nil _ _ none) (fun _ => rfl) rfl rfl rfl
  exact bodyPost_ret (v := .tuple #[.agg #[.int .i64 0, .string ⟨#[]⟩, .slice none 0 0], .bool false]) (resDkB (b := .bool false) rfl _ rfl rfl F) rfl P

set_option maxRecDepth 8000 in
set_option maxHeartbeats 1000000 in
theorem ido_names (x : Ld) (xs : List Ld) (dk dn : Int) (dt : List UInt8) (a : Option Addr) (cap : Nat) (w : World) (h : LdsAt w a xs) (h0 : a = none → cap = 0) (hd : dkB (x, xs) = true) (hn : namesB (dk, dn, dt) = false) :
    Calls Tryz.prog 52 #[dkV (x, xs) a cap, ddV (dk, dn, dt)] w (DoPost ((x, xs), false) w) := by
  have hl := (dkB_of hd).2.2
  change xs.length ≤ 8 at hl
  have hb := box3_new w (x, xs) a cap dk dn (bs dt)
  have g3 := made3 w (.cells #[.int .i64 x.1, .string (bs x.2), .slice a xs.length cap] 32) (.cells #[.int .i64 dk, .int .i64 dn, .string (bs dt)] 40) (.cells zeroDk 32)
  have hz := size3 w (.cells #[.int .i64 x.1, .string (bs x.2), .slice a xs.length cap] 32) (.cells #[.int .i64 dk, .int .i64 dn, .string (bs dt)] 40) (.cells zeroDk 32)
  have ck := idesk_any (x, xs) a cap _ (h.grown g3)
  rw [hd] at ck
  have HB := Lib.hid hb
  have G3 := Lib.hid g3
  have HZ := Lib.hid hz
  have cn := names_any (dk, dn, dt)
  rw [hn] at cn
  have cc := fun w1 (hg : World.grownBy _ w1 none) => copied_any (x, xs) a cap w1 ((h.grown g3).grown hg) h0 (by show xs.length ≤ 9; omega)
  clear h hb g3 hz h0 hd hn
  unfold dkV at *
  unfold ddV at *
  go_enter Tryz.func52, Tryz.ntmps52
  go_wp2_with (first | (go_at_call 23; refine ck.mono ?_; rintro e w1 ⟨rfl, hg⟩; obtain ⟨⟨d0, d1, d2⟩, ⟨e0, e1, e2⟩, ⟨r0, r1, r2⟩, f0, f1, f2⟩ := (HB.out.grown hg).facts) | (go_at_call 53; refine (cn _).mono ?_; rintro e w2 ⟨rfl, hg2⟩; obtain ⟨⟨d0, d1, d2⟩, ⟨e0, e1, e2⟩, ⟨r0, r1, r2⟩, f0, f1, f2⟩ := ((HB.out.grown hg).grown hg2).facts) | (go_at_call 50; refine (cc _ (grownBy_trans hg hg2)).mono ?_; rintro e w3 ⟨a', cap', rfl, ho, hg3⟩; obtain ⟨⟨d0, d1, d2⟩, ⟨e0, e1, e2⟩, ⟨r0, r1, r2⟩, f0, f1, f2⟩ := (((HB.out.grown hg).grown hg2).grown hg3).facts))
  have F := (((HB.out.grown hg).grown hg2).grown hg3).2.2.put3 (.int .i64 x.1) (.string (bs x.2)) (.slice a' xs.length cap')
  have P := do_post (x := x) (xs := xs) (b := false) (grownBy_trans (grownBy_trans (grownBy_trans G3.out hg) hg2) hg3) (ho.l.mono (by have := hg.size; have := hg2.size; have := HZ.out; omega)) ho.bare rfl rfl rfl
  exact bodyPost_ret (v := .tuple #[.agg #[.int .i64 x.1, .string (bs x.2), .slice a' xs.length cap'], .bool false]) (resDkB (b := .bool false) rfl _ rfl rfl F) rfl P

set_option maxRecDepth 8000 in
set_option maxHeartbeats 1000000 in
theorem ido_back (x : Ld) (xs : List Ld) (dk dn : Int) (dt : List UInt8) (a : Option Addr) (cap : Nat) (w : World) (h : LdsAt w a xs) (r : Dk × Bool) (hk : dk = 6) (hd : dkB (x, xs) = true) (hn : namesB (dk, dn, dt) = true)
    (cb : ∀ w1, LdsAt w1 a xs → Calls Tryz.prog 101 #[.agg #[.int .i64 x.1, .string (bs x.2), .slice a xs.length cap]] w1 (DoPost r w1)) :
    Calls Tryz.prog 52 #[dkV (x, xs) a cap, ddV (dk, dn, dt)] w (DoPost r w) := by
  have hb := box3_new w (x, xs) a cap dk dn (bs dt)
  have g3 := made3 w (.cells #[.int .i64 x.1, .string (bs x.2), .slice a xs.length cap] 32) (.cells #[.int .i64 dk, .int .i64 dn, .string (bs dt)] 40) (.cells zeroDk 32)
  have hz := size3 w (.cells #[.int .i64 x.1, .string (bs x.2), .slice a xs.length cap] 32) (.cells #[.int .i64 dk, .int .i64 dn, .string (bs dt)] 40) (.cells zeroDk 32)
  have ck := idesk_any (x, xs) a cap _ (h.grown g3)
  rw [hd] at ck
  have HB := Lib.hid hb
  have G3 := Lib.hid g3
  have HZ := Lib.hid hz
  have cn := names_any (dk, dn, dt)
  rw [hn] at cn
  have cc := fun w1 (hg : World.grownBy _ w1 none) => cb w1 ((h.grown g3).grown hg)
  clear h hb g3 hz hd hn cb
  subst hk
  unfold dkV at *
  unfold ddV at *
  obtain ⟨⟨⟨rm, rs⟩, rl⟩, rb⟩ := r
  unfold DoPost dkV at cc
  go_enter Tryz.func52, Tryz.ntmps52
  go_wp2_with (first | (go_at_call 23; refine ck.mono ?_; rintro e w1 ⟨rfl, hg⟩; obtain ⟨⟨d0, d1, d2⟩, ⟨e0, e1, e2⟩, ⟨r0, r1, r2⟩, f0, f1, f2⟩ := (HB.out.grown hg).facts) | (go_at_call 53; refine (cn _).mono ?_; rintro e w2 ⟨rfl, hg2⟩; obtain ⟨⟨d0, d1, d2⟩, ⟨e0, e1, e2⟩, ⟨r0, r1, r2⟩, f0, f1, f2⟩ := ((HB.out.grown hg).grown hg2).facts) | (go_at_call 101; refine (cc _ (grownBy_trans hg hg2)).mono ?_; rintro e w3 ⟨a', cap', rfl, ho, h0', hg3⟩; obtain ⟨⟨d0, d1, d2⟩, ⟨e0, e1, e2⟩, ⟨r0, r1, r2⟩, f0, f1, f2⟩ := (((HB.out.grown hg).grown hg2).grown hg3).facts))
  have F := (((HB.out.grown hg).grown hg2).grown hg3).2.2.put3 (.int .i64 rm) (.string (bs rs)) (.slice a' rl.length cap')
  have P := do_post (x := (rm, rs)) (xs := rl) (b := rb) (grownBy_trans (grownBy_trans (grownBy_trans G3.out hg) hg2) hg3) (ho.mono (by have := hg.size; have := hg2.size; have := HZ.out; omega)) h0' rfl rfl rfl
  exact bodyPost_ret (v := .tuple #[.agg #[.int .i64 rm, .string (bs rs), .slice a' rl.length cap'], .bool rb]) (resDkB (b := .bool rb) rfl _ rfl rfl F) rfl P

set_option maxRecDepth 8000 in
set_option maxHeartbeats 1000000 in
theorem ido_lay (x : Ld) (xs : List Ld) (dk dn : Int) (dt : List UInt8) (a : Option Addr) (cap : Nat) (w : World) (h : LdsAt w a xs) (h0 : a = none → cap = 0) (hk : dk ≠ 6) (hd : dkB (x, xs) = true) (hn : namesB (dk, dn, dt) = true) (ht : dt.length ≤ 4000000) (y : Ld) (hy : y = aft x (dk, dn, dt)) (r : Dk × Bool) (hr : r = if ldB y = true ∧ y ≠ x then ((y, capP (xs ++ [x])), true) else ((x, xs), false)) :
    Calls Tryz.prog 52 #[dkV (x, xs) a cap, ddV (dk, dn, dt)] w (DoPost r w) := by
  have hl := (dkB_of hd).2.2
  have hx : x.2.length ≤ 60 := isF_len (ldB_of (dkB_of hd).2.1).2
  change xs.length ≤ 8 at hl
  have hb := box3_new w (x, xs) a cap dk dn (bs dt)
  have g3 := made3 w (.cells #[.int .i64 x.1, .string (bs x.2), .slice a xs.length cap] 32) (.cells #[.int .i64 dk, .int .i64 dn, .string (bs dt)] 40) (.cells zeroDk 32)
  have hz := size3 w (.cells #[.int .i64 x.1, .string (bs x.2), .slice a xs.length cap] 32) (.cells #[.int .i64 dk, .int .i64 dn, .string (bs dt)] 40) (.cells zeroDk 32)
  have ck := idesk_any (x, xs) a cap _ (h.grown g3)
  rw [hd] at ck
  have HB := Lib.hid hb
  have G3 := Lib.hid g3
  have HZ := Lib.hid hz
  have cn := names_any (dk, dn, dt)
  rw [hn] at cn
  have ca := aft_any x (dk, dn, dt) hx ht
  unfold AftPost at ca
  rw [← hy] at ca
  have cc := fun w1 (hg : World.grownBy _ w1 none) => lay_any x y xs a cap w1 ((h.grown g3).grown hg) h0 hl
  rw [← hr] at cc
  have hk6 : (dk == 6) = false := beq_false_of_ne hk
  clear h hb g3 hz hd hn hk hx ht hy hr h0
  unfold dkV at *
  unfold ddV at *
  unfold ldV at *
  obtain ⟨m, s⟩ := x
  obtain ⟨k, u⟩ := y
  obtain ⟨⟨⟨rm, rs⟩, rl⟩, rb⟩ := r
  unfold DoPost dkV at cc
  go_enter Tryz.func52, Tryz.ntmps52
  go_wp2_with (first | (go_at_call 23; refine ck.mono ?_; rintro e w1 ⟨rfl, hg⟩; obtain ⟨⟨d0, d1, d2⟩, ⟨e0, e1, e2⟩, ⟨r0, r1, r2⟩, f0, f1, f2⟩ := (HB.out.grown hg).facts) | (go_at_call 53; refine (cn _).mono ?_; rintro e w2 ⟨rfl, hg2⟩; obtain ⟨⟨d0, d1, d2⟩, ⟨e0, e1, e2⟩, ⟨r0, r1, r2⟩, f0, f1, f2⟩ := ((HB.out.grown hg).grown hg2).facts))
  have W2 := Lib.hid ((HB.out.grown hg).grown hg2)
  have CC : ∀ w3, w2.grownBy w3 none → _ := fun w3 hg3 => cc w3 (grownBy_trans (grownBy_trans hg hg2) hg3)
  have g02 := Lib.hid (grownBy_trans (grownBy_trans G3.out hg) hg2)
  have hs2 := Lib.hid (show w.heap.size + 3 ≤ w2.heap.size by have := hg.size; have := hg2.size; have := HZ.out; omega)
  clear cc hg hg2
  go_region_with (first | (go_at_call 103; refine (ca _).mono ?_; rintro e w3 ⟨rfl, hg3⟩; obtain ⟨⟨d0, d1, d2⟩, ⟨e0, e1, e2⟩, ⟨r0, r1, r2⟩, f0, f1, f2⟩ := (W2.out.grown (drew_grown hg3)).facts) | (go_at_call 102; refine (CC _ (drew_grown hg3)).mono ?_; rintro e w4 ⟨a', cap', rfl, ho, h0', hg4⟩; obtain ⟨⟨d0, d1, d2⟩, ⟨e0, e1, e2⟩, ⟨r0, r1, r2⟩, f0, f1, f2⟩ := ((W2.out.grown (drew_grown hg3)).grown hg4).facts))
  all_goals go_wp2
  all_goals
    have F := ((W2.out.grown (drew_grown hg3)).grown hg4).2.2.put3 (.int .i64 rm) (.string (bs rs)) (.slice a' rl.length cap')
    have P := do_post (x := (rm, rs)) (xs := rl) (b := rb) (grownBy_trans (grownBy_trans g02.out (drew_grown hg3)) hg4) (ho.mono (by have := hs2.out; have := (drew_grown hg3).size; omega)) h0' rfl rfl rfl
    exact bodyPost_ret (v := .tuple #[.agg #[.int .i64 rm, .string (bs rs), .slice a' rl.length cap'], .bool rb]) (resDkB (b := .bool rb) rfl _ rfl rfl F) rfl P

/-- What a deed makes of any desk. -/
theorem ido_any (d : Dk) (D : Dd) (a : Option Addr) (cap : Nat) (w : World) (h : LdsAt w a d.2) (h0 : a = none → cap = 0) (ht : D.2.2.length ≤ 4000000) :
    Calls Tryz.prog 52 #[dkV d a cap, ddV D] w (DoPost (doR d D) w) := by
  obtain ⟨x, xs⟩ := d
  obtain ⟨k, n, t⟩ := D
  cases hd : dkB (x, xs)
  · rw [doR_no hd]; exact ido_bad x xs k n t a cap w h hd
  have hl := (dkB_of hd).2.2
  change xs.length ≤ 8 at hl
  cases hn : namesB (k, n, t)
  · obtain ⟨h6, hw⟩ := names_no (x := x) hn
    rw [doR_none hd (doD_none (d := (x, xs)) h6 hw)]
    exact ido_names x xs k n t a cap w h h0 hd hn
  by_cases h6 : k = 6
  · have hD : ((k, n, t) : Dd) = (6, 0, []) := by
      subst h6
      unfold namesB at hn
      simp at hn
      rw [hn.1, hn.2]
    have hr : doR (x, xs) (k, n, t) = doR (x, xs) (6, 0, []) := by rw [hD]
    rw [hr]
    refine ido_back x xs k n t a cap w h _ h6 hd hn fun w1 hw1 => ?_
    obtain ⟨m, s⟩ := x
    cases hp : xs.getLast? with
    | some p =>
      rw [doR_some hd (doD_back (d := ((m, s), xs)) hp)]
      obtain ⟨ys, rfl⟩ : ∃ ys, xs = ys ++ [p] := List.getLast?_eq_some_iff.1 hp
      have hL : (ys ++ [p]).length = ys.length + 1 := by simp
      show Calls _ _ _ _ (DoPost ((p, (ys ++ [p]).dropLast), true) w1)
      rw [List.dropLast_concat, hL]
      exact back_some m s p ys a cap w1 hw1 h0 (by omega)
    | none =>
      have hx0 : xs = [] := List.getLast?_eq_none_iff.1 hp
      rw [doR_none hd (doD_back0 (d := ((m, s), xs)) hx0)]
      subst hx0
      exact back_none m s a cap w1 h0
  · refine ido_lay x xs k n t a cap w h h0 h6 hd hn ht _ rfl _ ?_
    have e := aft_new (x := x) (a := (k, n, t)) (dkB_of hd).2.1 hn h6
    have hne : ((k, n, t) : Dd) ≠ (6, 0, []) := fun q => h6 (congrArg Prod.fst q)
    by_cases hc : ldB (aft x (k, n, t)) = true ∧ aft x (k, n, t) ≠ x
    · rw [if_pos hc] at e
      rw [if_pos hc, doR_some hd (doD_new (d := (x, xs)) hne e)]
    · rw [if_neg hc] at e
      rw [if_neg hc, doR_none hd (doD_none (d := (x, xs)) hne e)]

end Go.Proofs.YtlnffpofbfigaaaGreatDoor
