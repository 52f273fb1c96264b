/-
  Copies of a desk: the library's Clone, impl's copied, the model's l12Copy.
-/
import Derived.Test.YtlnffpofbfigaaaGreatDoorDRow
import Derived.Laws.AppendOwnNone
namespace Go.Proofs.YtlnffpofbfigaaaGreatDoor
open Go.RowKit

set_option maxHeartbeats 1000000 in
theorem ldclone_some (ad : Addr) (cap : Nat) (xs : List Ld) (w : World) (h : LdsAt w (some ad) xs) (hl : xs.length ≤ 9) :
    Calls Tryz.prog 97 #[.slice (some ad) xs.length cap] w (LdsPost xs w) := by
  obtain ⟨i0, hi, hz0, hz1, hz2⟩ := info_parts infoLd
  have hq : ∀ w, (binOp .eql 30 (.slice (some ad) xs.length cap) (.slice none 0 0)).run Tryz.prog w = .ok (.bool false) w := fun w => by kernel_rfl
  have hown := Own2.made w
  have hg0 : w.grownBy (w.alloc (.cells #[] 29)) none := World.grownBy_alloc _ _ none
  have H0 := Lib.hid hg0
  have HB := Lib.hid (h.grown hg0).news
  clear h hg0
  have Ho := Lib.hid hown
  clear hown
  go_enter Tryz.func97, Tryz.ntmps97
  go_wp2_with (at_builtin; refine wpList_append_own _ rfl _ _ 30 rfl w.heap.size 29 i0 (.agg #[.int .i64 0, .string ⟨#[]⟩]) 2 24 Tryz.underlying30 hi hz0 hz1 hz2 rfl (by decide) _ _ _ rfl Ho.out ad xs.length cap (ldC xs) rfl (ldC_len xs) HB.out (ldC_one xs) ?c3 ?c4 ?c5 ?_)
  case c3 => unfold maxLen; simp; omega
  case c4 => simp; omega
  case c5 => simp
  intro v' w3 hown' hgrow _
  have R : LdsPost xs w (.returned v') w3 := by
    obtain ⟨a, cap, rfl, _, hO⟩ := own2_shape (zs := xs) hown'
    exact ⟨a, cap, rfl, hO, grow_own2 H0.out Ho.out (Nat.le_refl _) hgrow⟩
  clear hown' hgrow
  have HR := Lib.hid R
  clear R
  go_wp2
  go_ret
  exact HR.out
theorem ldclone_none (w : World) :
    Calls Tryz.prog 97 #[.slice none 0 0] w (LdsPost [] w) := by
  have hq : ∀ w, (binOp .eql 30 (.slice none 0 0) (.slice none 0 0)).run Tryz.prog w = .ok (.bool true) w := fun w => by kernel_rfl
  go_enter Tryz.func97, Tryz.ntmps97
  go_wp2
  go_ret
  exact ⟨none, 0, rfl, Own2.nil _ _, grownBy_refl _ _⟩
theorem ldclone_any (a : Option Addr) (cap : Nat) (xs : List Ld) (w : World) (h : LdsAt w a xs) (h0 : a = none → cap = 0) (hl : xs.length ≤ 9) :
    Calls Tryz.prog 97 #[.slice a xs.length cap] w (LdsPost xs w) := by
  cases a with
  | some ad => exact ldclone_some ad cap xs w h hl
  | none =>
    rcases h.2 with rfl | ⟨_, _, e, _⟩
    · rw [h0 rfl]; exact ldclone_none w
    · cases e

set_option maxHeartbeats 1000000 in
theorem copied_any (d : Dk) (a : Option Addr) (cap : Nat) (w : World) (h : LdsAt w a d.2) (h0 : a = none → cap = 0) (hl : d.2.length ≤ 9) :
    Calls Tryz.prog 50 #[dkV d a cap] w fun e w' => ∃ a' cap', e = .returned (dkV d a' cap') ∧ Own2 w' w.heap.size a' cap' d.2 ∧ w.grownBy w' none := by
  obtain ⟨⟨n, s⟩, xs⟩ := d
  unfold dkV
  have g1 : w.grownBy ((w.alloc (.cells #[.int .i64 n, .string (bs s), .slice a xs.length cap] 32)).alloc (.cells zeroDk 32)) none := grownBy_trans (World.grownBy_alloc _ _ none) (World.grownBy_alloc _ _ none)
  have cc := ldclone_any a cap xs _ (h.grown (grownBy_drew g1)) h0 hl
  have hsz : w.heap.size + 2 ≤ ((w.alloc (.cells #[.int .i64 n, .string (bs s), .slice a xs.length cap] 32)).alloc (.cells zeroDk 32)).drew.heap.size := by show _ ≤ ((w.heap.push _).push _).size; rw [Array.size_push, Array.size_push]; omega
  have G1 := Lib.hid g1
  have HS := Lib.hid hsz
  clear h h0 g1 hsz
  go_enter Tryz.func50, Tryz.ntmps50
  go_wp2
  go_region_with (go_at_call 97; refine cc.mono ?_; rintro e w' ⟨a', cap', rfl, ho, hg⟩; obtain ⟨⟨b0, b1, b2⟩, ⟨z0, z1, z2⟩, HB, f0, f1, f2⟩ := out2_of (drew_grown hg))
  all_goals go_wp2
  all_goals exact bodyPost_ret (resDk rfl _ rfl (HB.out.put3 _ _ _)) rfl ⟨a', cap', rfl, (ho.past (put3_past _ _ _ _ _) (by have := HS.out; omega)).mono (by have := HS.out; omega), put3_grown _ (grownBy_trans G1.out (drew_grown hg)) (by omega) _ _ _⟩

def boxDk (d : Dk) (a : Option Addr) (cap : Nat) : Obj := .cells #[.int .i64 d.1.1, .string (bs d.1.2), .slice a d.2.length cap] 32
theorem copy_end {w w3 : World} {A : Obj} {a' : Option Addr} {cap' : Nat} {d : Dk} (hO : Own2 w3 (w.heap.size + 1 + 1) a' cap' d.2) (hg : ((w.alloc A).alloc (.cells zeroDk 32)).grownBy w3 none) :
    CellsAt (((w3.setCell ⟨w.heap.size + 1, 0, none⟩ (.int .i64 d.1.1)).setCell ⟨w.heap.size + 1, 1, none⟩ (.string (bs d.1.2))).setCell ⟨w.heap.size + 1, 2, none⟩ (.slice a' d.2.length cap')) (w.heap.size + 1) #[.int .i64 d.1.1, .string (bs d.1.2), .slice a' d.2.length cap'] 32 ∧
      Own2 (((w3.setCell ⟨w.heap.size + 1, 0, none⟩ (.int .i64 d.1.1)).setCell ⟨w.heap.size + 1, 1, none⟩ (.string (bs d.1.2))).setCell ⟨w.heap.size + 1, 2, none⟩ (.slice a' d.2.length cap')) w.heap.size a' cap' d.2 ∧
      w.grownBy (((w3.setCell ⟨w.heap.size + 1, 0, none⟩ (.int .i64 d.1.1)).setCell ⟨w.heap.size + 1, 1, none⟩ (.string (bs d.1.2))).setCell ⟨w.heap.size + 1, 2, none⟩ (.slice a' d.2.length cap')) none := by
  have hB := ((CellsAt.second w A zeroDk 32).grown hg).put3 (.int .i64 d.1.1) (.string (bs d.1.2)) (.slice a' d.2.length cap')
  exact ⟨hB, (hO.past (put3_past _ _ _ _ _) (by omega)).mono (by omega), put3_grown _ (grownBy_trans (grownBy_trans (World.grownBy_alloc _ _ none) (World.grownBy_alloc _ _ none)) hg) (by omega) _ _ _⟩

set_option maxHeartbeats 1000000 in
theorem scopy_run (n : Int) (s : List UInt8) (xs : List Ld) (av : Option Addr) (cap : Nat) (w w3 : World) (a' : Option Addr) (cap' : Nat)
    (hrun : (Builtin.append_ #[30, 30] 30 #[.slice (some ⟨w.heap.size + 1 + 1, 0, none⟩) 0 0, .slice av xs.length cap]).run Tryz.prog (((w.alloc (.cells #[.int .i64 n, .string (bs s), .slice av xs.length cap] 32)).alloc (.cells #[.int .i64 0, .string ⟨#[]⟩, .slice none 0 0] 32)).alloc (.cells #[] 29)).drew = .ok (.slice a' xs.length cap') w3)
    (hO : Own2 w3 (w.heap.size + 1 + 1) a' cap' xs) (hgx : ((w.alloc (.cells #[.int .i64 n, .string (bs s), .slice av xs.length cap] 32)).alloc (.cells #[.int .i64 0, .string ⟨#[]⟩, .slice none 0 0] 32)).grownBy w3 none) :
    Calls Tryz.prog 60 #[.agg #[.int .i64 n, .string (bs s), .slice av xs.length cap]] w fun e w' => ∃ a' cap', e = .returned (dkV ((n, s), xs) a' cap') ∧ Own2 w' w.heap.size a' cap' xs ∧ w.grownBy w' none := by
  have gx : ((w.alloc (.cells #[.int .i64 n, .string (bs s), .slice av xs.length cap] 32)).alloc (.cells #[.int .i64 0, .string ⟨#[]⟩, .slice none 0 0] 32)).grownBy (((w.alloc (.cells #[.int .i64 n, .string (bs s), .slice av xs.length cap] 32)).alloc (.cells #[.int .i64 0, .string ⟨#[]⟩, .slice none 0 0] 32)).alloc (.cells #[] 29)).drew none := grownBy_drew (World.grownBy_alloc _ _ none)
  obtain ⟨⟨b0, b1, b2⟩, ⟨z0, z1, z2⟩, HB, f0, f1, f2⟩ := out2_of hgx
  have Fin := Lib.hid (copy_end (d := ((n, s), xs)) hO hgx)
  have k1 := ((CellsAt.first w (.cells #[.int .i64 0, .string ⟨#[]⟩, .slice none 0 0] 32) #[.int .i64 n, .string (bs s), .slice av xs.length cap] 32).grown (grownBy_drew (grownBy_refl _ none))).three
  have k2 := ((CellsAt.first w (.cells #[.int .i64 0, .string ⟨#[]⟩, .slice none 0 0] 32) #[.int .i64 n, .string (bs s), .slice av xs.length cap] 32).grown gx).three
  have K1 := Lib.hid k1
  have K2 := Lib.hid k2
  have B4 := Lib.hid (((CellsAt.first w (.cells zeroDk 32) #[.int .i64 n, .string (bs s), .slice av xs.length cap] 32).grown hgx).kept (put3_past w3 (w.heap.size + 1) (.int .i64 n) (.string (bs s)) (.slice a' xs.length cap')) (by simp)).three
  have B3 := Lib.hid (show w3.cell? ⟨w.heap.size, 0, none⟩ = some (.int .i64 n) ∧ w3.cell? ⟨w.heap.size, 1, none⟩ = some (.string (bs s)) ∧ w3.cell? ⟨w.heap.size, 2, none⟩ = some (.slice av xs.length cap) from ⟨b0, b1, b2⟩)
  clear gx hO hgx k1 k2 b0 b1 b2
  go_enter Tryz.func60, Tryz.ntmps60
  go_wp2
  go_region_held_law (fun w' : World => w'.cell? ⟨w.heap.size, 0, none⟩ = some (.int .i64 n) ∧ w'.cell? ⟨w.heap.size, 1, none⟩ = some (.string (bs s)) ∧ w'.cell? ⟨w.heap.size, 2, none⟩ = some (.slice av xs.length cap)) (first | exact B3.out | exact B4.out | exact K1.out | exact K2.out) ((refine step_append_run (by rfl) _ _ _ (by rfl) (.slice (some ⟨w.heap.size + 1 + 1, 0, none⟩) 0 0) (.slice av xs.length cap) (by rfl) (by rfl) (.slice a' xs.length cap') w3 hrun ?_))
  go_wp2
  exact bodyPost_ret (resDk rfl _ rfl Fin.out.1) rfl ⟨a', cap', rfl, Fin.out.2.1, Fin.out.2.2⟩
theorem size2 (w : World) (A B : Obj) : ((w.alloc A).alloc B).heap.size = w.heap.size + 1 + 1 := by show ((w.heap.push _).push _).size = _; rw [Array.size_push, Array.size_push]
theorem own_third (w : World) (A B : Obj) : Own2 (((w.alloc A).alloc B).alloc (.cells #[] 29)).drew (w.heap.size + 1 + 1) (some ⟨w.heap.size + 1 + 1, 0, none⟩) 0 [] := by
  have h := Own2.made ((w.alloc A).alloc B)
  rw [size2] at h
  exact h
theorem scopy_any (d : Dk) (av : Option Addr) (cap : Nat) (w : World) (h : LdsAt w av d.2) (h0 : av = none → cap = 0) (hl : d.2.length ≤ 9) :
    Calls Tryz.prog 60 #[dkV d av cap] w fun e w' => ∃ a' cap', e = .returned (dkV d a' cap') ∧ Own2 w' w.heap.size a' cap' d.2 ∧ w.grownBy w' none := by
  obtain ⟨⟨n, s⟩, xs⟩ := d
  change LdsAt w av xs at h
  change xs.length ≤ 9 at hl
  obtain ⟨i0, hi, hz0, hz1, hz2⟩ := info_parts infoLd
  have g1 : w.grownBy ((w.alloc (.cells #[.int .i64 n, .string (bs s), .slice av xs.length cap] 32)).alloc (.cells #[.int .i64 0, .string ⟨#[]⟩, .slice none 0 0] 32)) none := grownBy_trans (World.grownBy_alloc _ _ none) (World.grownBy_alloc _ _ none)
  have gx : ((w.alloc (.cells #[.int .i64 n, .string (bs s), .slice av xs.length cap] 32)).alloc (.cells #[.int .i64 0, .string ⟨#[]⟩, .slice none 0 0] 32)).grownBy (((w.alloc (.cells #[.int .i64 n, .string (bs s), .slice av xs.length cap] 32)).alloc (.cells #[.int .i64 0, .string ⟨#[]⟩, .slice none 0 0] 32)).alloc (.cells #[] 29)).drew none := grownBy_drew (World.grownBy_alloc _ _ none)
  have hown := own_third w (.cells #[.int .i64 n, .string (bs s), .slice av xs.length cap] 32) (.cells #[.int .i64 0, .string ⟨#[]⟩, .slice none 0 0] 32)
  cases av with
  | some ad =>
    obtain ⟨v', w3, hrun, hO, hg, _⟩ := run_append_own (P := Tryz.prog) _ (w.heap.size + 1 + 1) 30 30 29 i0 (.agg #[.int .i64 0, .string ⟨#[]⟩]) 2 24 Tryz.underlying30 hi hz0 hz1 hz2 rfl (by decide) _ _ _ hown ad xs.length cap (ldC xs) (ldC_len xs) (h.grown (grownBy_trans g1 gx)).news (ldC_one xs) (by unfold maxLen; simp; omega) (by simp; omega) (by show _ ≤ (((w.heap.push _).push _).push _).size; rw [Array.size_push, Array.size_push, Array.size_push]; omega)
    have hgx := grow_own2 gx hown (by rw [size2]; exact Nat.le_refl _) hg
    obtain ⟨a', cap', rfl, _, hO⟩ := own2_shape (zs := xs) (by simpa [ldC] using hO)
    exact scopy_run n s xs (some ad) cap w w3 a' cap' hrun hO hgx
  | none =>
    have hx : xs = [] := by
      rcases h.2 with h1 | ⟨_, _, e, _⟩
      · exact h1
      · cases e
    subst hx
    have hc := h0 rfl
    subst hc
    have hrun := run_append_owned_none (P := Tryz.prog) _ (w.heap.size + 1 + 1) 30 30 29 i0 2 Tryz.underlying30 hi _ _ _ hown
    exact scopy_run n s [] none 0 w _ _ 0 hrun hown gx

end Go.Proofs.YtlnffpofbfigaaaGreatDoor
