/-
  Joined out of the texts DCl, DDo: what each holds is told at its head.
-/
import Derived.Test.YtlnffpofbfigaaaGreatDoorM17364382
import Derived.Laws.AppendOwnNone
import Derived.Test.YtlnffpofbfigaaaGreatDoorM2359aa93
import Derived.Test.YtlnffpofbfigaaaGreatDoorM323050c2

/-
  Copies of a desk: the library's Clone, impl's copied, the model's l12Copy.
-/
namespace Go.Proofs.YtlnffpofbfigaaaGreatDoor
open Go.RowKit

set_option maxHeartbeats 1000000 in
theorem ldclone_some (ad : Addr) (cap : Nat) (xs : List Ld) (w : World) (h : LdsAt w (some ad) xs) (hl : xs.length ≤ 9) :
    Calls Tryz.prog 97 #[.slice (some ad) xs.length cap] w (LdsPost xs w) := by
  obtain ⟨i0, hi, hz0, hz1, hz2⟩ := info_parts infoLd
  have hq : ∀ w, (binOp .eql 30 (.slice (some ad) xs.length cap) (.slice none 0 0)).run Tryz.prog w = .ok (.bool false) w := fun w => by kernel_rfl
  have hown := Own2.made w
  have hg0 : w.grownBy (w.alloc (.cells #[] 29)) none := World.grownBy_alloc _ _ none
  have H0 := Lib.hid hg0
  have HB := Lib.hid (h.grown hg0).news
  clear h hg0
  have Ho := Lib.hid hown
  clear hown
  go_enter Tryz.func97, Tryz.ntmps97
  go_wp2_with (at_builtin; refine wpList_append_own _ rfl _ _ 30 rfl w.heap.size 29 i0 (.agg #[.int .i64 0, .string ⟨#[]⟩]) 2 24 Tryz.underlying30 hi hz0 hz1 hz2 rfl (by decide) _ _ _ rfl Ho.out ad xs.length cap (ldC xs) rfl (ldC_len xs) HB.out (ldC_one xs) ?c3 ?c4 ?c5 ?_)
  case c3 => unfold maxLen; simp; omega
  case c4 => simp; omega
  case c5 => simp
  intro v' w3 hown' hgrow _
  have R : LdsPost xs w (.returned v') w3 := by
    obtain ⟨a, cap, rfl, _, hO⟩ := own2_shape (zs := xs) hown'
    exact ⟨a, cap, rfl, hO, grow_own2 H0.out Ho.out (Nat.le_refl _) hgrow⟩
  clear hown' hgrow
  have HR := Lib.hid R
  clear R
  go_wp2
  go_ret
  exact HR.out
theorem ldclone_none (w : World) :
    Calls Tryz.prog 97 #[.slice none 0 0] w (LdsPost [] w) := by
  have hq : ∀ w, (binOp .eql 30 (.slice none 0 0) (.slice none 0 0)).run Tryz.prog w = .ok (.bool true) w := fun w => by kernel_rfl
  go_enter Tryz.func97, Tryz.ntmps97
  go_wp2
  go_ret
  exact ⟨none, 0, rfl, Own2.nil _ _, grownBy_refl _ _⟩
theorem ldclone_any (a : Option Addr) (cap : Nat) (xs : List Ld) (w : World) (h : LdsAt w a xs) (h0 : a = none → cap = 0) (hl : xs.length ≤ 9) :
    Calls Tryz.prog 97 #[.slice a xs.length cap] w (LdsPost xs w) := by
  cases a with
  | some ad => exact ldclone_some ad cap xs w h hl
  | none =>
    rcases h.2 with rfl | ⟨_, _, e, _⟩
    · rw [h0 rfl]; exact ldclone_none w
    · cases e

set_option maxHeartbeats 1000000 in
theorem copied_any (d : Dk) (a : Option Addr) (cap : Nat) (w : World) (h : LdsAt w a d.2) (h0 : a = none → cap = 0) (hl : d.2.length ≤ 9) :
    Calls Tryz.prog 50 #[dkV d a cap] w fun e w' => ∃ a' cap', e = .returned (dkV d a' cap') ∧ Own2 w' w.heap.size a' cap' d.2 ∧ w.grownBy w' none := by
  obtain ⟨⟨n, s⟩, xs⟩ := d
  unfold dkV
  have g1 : w.grownBy ((w.alloc (.cells #[.int .i64 n, .string (bs s), .slice a xs.length cap] 32)).alloc (.cells zeroDk 32)) none := grownBy_trans (World.grownBy_alloc _ _ none) (World.grownBy_alloc _ _ none)
  have cc := ldclone_any a cap xs _ (h.grown (grownBy_drew g1)) h0 hl
  have hsz : w.heap.size + 2 ≤ ((w.alloc (.cells #[.int .i64 n, .string (bs s), .slice a xs.length cap] 32)).alloc (.cells zeroDk 32)).drew.heap.size := by show _ ≤ ((w.heap.push _).push _).size; rw [Array.size_push, Array.size_push]; omega
  have G1 := Lib.hid g1
  have HS := Lib.hid hsz
  clear h h0 g1 hsz
  go_enter Tryz.func50, Tryz.ntmps50
  go_wp2
  go_region_with (go_at_call 97; refine cc.mono ?_; rintro e w' ⟨a', cap', rfl, ho, hg⟩; obtain ⟨⟨b0, b1, b2⟩, ⟨z0, z1, z2⟩, HB, f0, f1, f2⟩ := out2_of (drew_grown hg))
  all_goals go_wp2
  all_goals exact bodyPost_ret (resDk rfl _ rfl (HB.out.put3 _ _ _)) rfl ⟨a', cap', rfl, (ho.past (put3_past _ _ _ _ _) (by have := HS.out; omega)).mono (by have := HS.out; omega), put3_grown _ (grownBy_trans G1.out (drew_grown hg)) (by omega) _ _ _⟩

theorem copy_end {w w3 : World} {A : Obj} {a' : Option Addr} {cap' : Nat} {d : Dk} (hO : Own2 w3 (w.heap.size + 1 + 1) a' cap' d.2) (hg : ((w.alloc A).alloc (.cells zeroDk 32)).grownBy w3 none) :
    CellsAt (((w3.setCell ⟨w.heap.size + 1, 0, none⟩ (.int .i64 d.1.1)).setCell ⟨w.heap.size + 1, 1, none⟩ (.string (bs d.1.2))).setCell ⟨w.heap.size + 1, 2, none⟩ (.slice a' d.2.length cap')) (w.heap.size + 1) #[.int .i64 d.1.1, .string (bs d.1.2), .slice a' d.2.length cap'] 32 ∧
      Own2 (((w3.setCell ⟨w.heap.size + 1, 0, none⟩ (.int .i64 d.1.1)).setCell ⟨w.heap.size + 1, 1, none⟩ (.string (bs d.1.2))).setCell ⟨w.heap.size + 1, 2, none⟩ (.slice a' d.2.length cap')) w.heap.size a' cap' d.2 ∧
      w.grownBy (((w3.setCell ⟨w.heap.size + 1, 0, none⟩ (.int .i64 d.1.1)).setCell ⟨w.heap.size + 1, 1, none⟩ (.string (bs d.1.2))).setCell ⟨w.heap.size + 1, 2, none⟩ (.slice a' d.2.length cap')) none := by
  have hB := ((CellsAt.second w A zeroDk 32).grown hg).put3 (.int .i64 d.1.1) (.string (bs d.1.2)) (.slice a' d.2.length cap')
  exact ⟨hB, (hO.past (put3_past _ _ _ _ _) (by omega)).mono (by omega), put3_grown _ (grownBy_trans (grownBy_trans (World.grownBy_alloc _ _ none) (World.grownBy_alloc _ _ none)) hg) (by omega) _ _ _⟩

set_option maxHeartbeats 1000000 in
theorem scopy_run (n : Int) (s : List UInt8) (xs : List Ld) (av : Option Addr) (cap : Nat) (w w3 : World) (a' : Option Addr) (cap' : Nat)
    (hrun : (Builtin.append_ #[30, 30] 30 #[.slice (some ⟨w.heap.size + 1 + 1, 0, none⟩) 0 0, .slice av xs.length cap]).run Tryz.prog (((w.alloc (.cells #[.int .i64 n, .string (bs s), .slice av xs.length cap] 32)).alloc (.cells #[.int .i64 0, .string ⟨#[]⟩, .slice none 0 0] 32)).alloc (.cells #[] 29)).drew = .ok (.slice a' xs.length cap') w3)
    (hO : Own2 w3 (w.heap.size + 1 + 1) a' cap' xs) (hgx : ((w.alloc (.cells #[.int .i64 n, .string (bs s), .slice av xs.length cap] 32)).alloc (.cells #[.int .i64 0, .string ⟨#[]⟩, .slice none 0 0] 32)).grownBy w3 none) :
    Calls Tryz.prog 60 #[.agg #[.int .i64 n, .string (bs s), .slice av xs.length cap]] w fun e w' => ∃ a' cap', e = .returned (dkV ((n, s), xs) a' cap') ∧ Own2 w' w.heap.size a' cap' xs ∧ w.grownBy w' none := by
  have gx : ((w.alloc (.cells #[.int .i64 n, .string (bs s), .slice av xs.length cap] 32)).alloc (.cells #[.int .i64 0, .string ⟨#[]⟩, .slice none 0 0] 32)).grownBy (((w.alloc (.cells #[.int .i64 n, .string (bs s), .slice av xs.length cap] 32)).alloc (.cells #[.int .i64 0, .string ⟨#[]⟩, .slice none 0 0] 32)).alloc (.cells #[] 29)).drew none := grownBy_drew (World.grownBy_alloc _ _ none)
  obtain ⟨⟨b0, b1, b2⟩, ⟨z0, z1, z2⟩, HB, f0, f1, f2⟩ := out2_of hgx
  have Fin := Lib.hid (copy_end (d := ((n, s), xs)) hO hgx)
  have k1 := ((CellsAt.first w (.cells #[.int .i64 0, .string ⟨#[]⟩, .slice none 0 0] 32) #[.int .i64 n, .string (bs s), .slice av xs.length cap] 32).grown (grownBy_drew (grownBy_refl _ none))).three
  have k2 := ((CellsAt.first w (.cells #[.int .i64 0, .string ⟨#[]⟩, .slice none 0 0] 32) #[.int .i64 n, .string (bs s), .slice av xs.length cap] 32).grown gx).three
  have K1 := Lib.hid k1
  have K2 := Lib.hid k2
  have B4 := Lib.hid (((CellsAt.first w (.cells zeroDk 32) #[.int .i64 n, .string (bs s), .slice av xs.length cap] 32).grown hgx).kept (put3_past w3 (w.heap.size + 1) (.int .i64 n) (.string (bs s)) (.slice a' xs.length cap')) (by simp)).three
  have B3 := Lib.hid (show w3.cell? ⟨w.heap.size, 0, none⟩ = some (.int .i64 n) ∧ w3.cell? ⟨w.heap.size, 1, none⟩ = some (.string (bs s)) ∧ w3.cell? ⟨w.heap.size, 2, none⟩ = some (.slice av xs.length cap) from ⟨b0, b1, b2⟩)
  clear gx hO hgx k1 k2 b0 b1 b2
  go_enter Tryz.func60, Tryz.ntmps60
  go_wp2
  go_region_held_law (fun w' : World => w'.cell? ⟨w.heap.size, 0, none⟩ = some (.int .i64 n) ∧ w'.cell? ⟨w.heap.size, 1, none⟩ = some (.string (bs s)) ∧ w'.cell? ⟨w.heap.size, 2, none⟩ = some (.slice av xs.length cap)) (first | exact B3.out | exact B4.out | exact K1.out | exact K2.out) ((refine step_append_run (by rfl) _ _ _ (by rfl) (.slice (some ⟨w.heap.size + 1 + 1, 0, none⟩) 0 0) (.slice av xs.length cap) (by rfl) (by rfl) (.slice a' xs.length cap') w3 hrun ?_))
  go_wp2
  exact bodyPost_ret (resDk rfl _ rfl Fin.out.1) rfl ⟨a', cap', rfl, Fin.out.2.1, Fin.out.2.2⟩
theorem size2 (w : World) (A B : Obj) : ((w.alloc A).alloc B).heap.size = w.heap.size + 1 + 1 := by show ((w.heap.push _).push _).size = _; rw [Array.size_push, Array.size_push]
theorem own_third (w : World) (A B : Obj) : Own2 (((w.alloc A).alloc B).alloc (.cells #[] 29)).drew (w.heap.size + 1 + 1) (some ⟨w.heap.size + 1 + 1, 0, none⟩) 0 [] := by
  have h := Own2.made ((w.alloc A).alloc B)
  rw [size2] at h
  exact h
theorem scopy_any (d : Dk) (av : Option Addr) (cap : Nat) (w : World) (h : LdsAt w av d.2) (h0 : av = none → cap = 0) (hl : d.2.length ≤ 9) :
    Calls Tryz.prog 60 #[dkV d av cap] w fun e w' => ∃ a' cap', e = .returned (dkV d a' cap') ∧ Own2 w' w.heap.size a' cap' d.2 ∧ w.grownBy w' none := by
  obtain ⟨⟨n, s⟩, xs⟩ := d
  change LdsAt w av xs at h
  change xs.length ≤ 9 at hl
  obtain ⟨i0, hi, hz0, hz1, hz2⟩ := info_parts infoLd
  have g1 : w.grownBy ((w.alloc (.cells #[.int .i64 n, .string (bs s), .slice av xs.length cap] 32)).alloc (.cells #[.int .i64 0, .string ⟨#[]⟩, .slice none 0 0] 32)) none := grownBy_trans (World.grownBy_alloc _ _ none) (World.grownBy_alloc _ _ none)
  have gx : ((w.alloc (.cells #[.int .i64 n, .string (bs s), .slice av xs.length cap] 32)).alloc (.cells #[.int .i64 0, .string ⟨#[]⟩, .slice none 0 0] 32)).grownBy (((w.alloc (.cells #[.int .i64 n, .string (bs s), .slice av xs.length cap] 32)).alloc (.cells #[.int .i64 0, .string ⟨#[]⟩, .slice none 0 0] 32)).alloc (.cells #[] 29)).drew none := grownBy_drew (World.grownBy_alloc _ _ none)
  have hown := own_third w (.cells #[.int .i64 n, .string (bs s), .slice av xs.length cap] 32) (.cells #[.int .i64 0, .string ⟨#[]⟩, .slice none 0 0] 32)
  cases av with
  | some ad =>
    obtain ⟨v', w3, hrun, hO, hg, _⟩ := run_append_own (P := Tryz.prog) _ (w.heap.size + 1 + 1) 30 30 29 i0 (.agg #[.int .i64 0, .string ⟨#[]⟩]) 2 24 Tryz.underlying30 hi hz0 hz1 hz2 rfl (by decide) _ _ _ hown ad xs.length cap (ldC xs) (ldC_len xs) (h.grown (grownBy_trans g1 gx)).news (ldC_one xs) (by unfold maxLen; simp; omega) (by simp; omega) (by show _ ≤ (((w.heap.push _).push _).push _).size; rw [Array.size_push, Array.size_push, Array.size_push]; omega)
    have hgx := grow_own2 gx hown (by rw [size2]; exact Nat.le_refl _) hg
    obtain ⟨a', cap', rfl, _, hO⟩ := own2_shape (zs := xs) (by simpa [ldC] using hO)
    exact scopy_run n s xs (some ad) cap w w3 a' cap' hrun hO hgx
  | none =>
    have hx : xs = [] := by
      rcases h.2 with h1 | ⟨_, _, e, _⟩
      · exact h1
      · cases e
    subst hx
    have hc := h0 rfl
    subst hc
    have hrun := run_append_owned_none (P := Tryz.prog) _ (w.heap.size + 1 + 1) 30 30 29 i0 2 Tryz.underlying30 hi _ _ _ hown
    exact scopy_run n s [] none 0 w _ _ 0 hrun hown gx

end Go.Proofs.YtlnffpofbfigaaaGreatDoor

/-
  What a deed makes of a desk: the model's DeskDo.
-/
namespace Go.Proofs.YtlnffpofbfigaaaGreatDoor
open Go.RowKit

/-- What DeskDo leaves: the desk in a value whose row is the call's own, and whether the deed was done. -/
def DoPost (r : Dk × Bool) (w : World) (e : Ending) (w' : World) : Prop := ∃ a cap, e = .returned (.tuple #[dkV r.1 a cap, .bool r.2]) ∧ OwnL w' w.heap.size a r.1.2 ∧ (a = none → cap = 0) ∧ w.grownBy w' none

/-- Three blocks (the desk, the deed, the result) in a world behind a call. -/
def Box3 (w' : World) (h : Nat) (d : Dk) (a : Option Addr) (cap : Nat) (dk dn : Int) (dt : ByteArray) : Prop :=
  CellsAt w' h #[.int .i64 d.1.1, .string (bs d.1.2), .slice a d.2.length cap] 32 ∧ CellsAt w' (h + 1) #[.int .i64 dk, .int .i64 dn, .string dt] 40 ∧ CellsAt w' (h + 1 + 1) zeroDk 32
theorem Box3.grown {w w' : World} {h : Nat} {d : Dk} {a : Option Addr} {cap : Nat} {dk dn : Int} {dt : ByteArray} (k : Box3 w h d a cap dk dn dt) (hg : w.grownBy w' none) : Box3 w' h d a cap dk dn dt := ⟨k.1.grown hg, k.2.1.grown hg, k.2.2.grown hg⟩
theorem Box3.kept {w w' : World} {h b : Nat} {d : Dk} {a : Option Addr} {cap : Nat} {dk dn : Int} {dt : ByteArray} (k : Box3 w h d a cap dk dn dt) (hg : w.grownBy w' (some b)) (hb : h + 2 < b) : Box3 w' h d a cap dk dn dt := ⟨k.1.kept hg (by simp; omega), k.2.1.kept hg (by simp; omega), k.2.2.kept hg (by simp; omega)⟩
theorem box3_new (w : World) (d : Dk) (a : Option Addr) (cap : Nat) (dk dn : Int) (dt : ByteArray) :
    Box3 (((w.alloc (.cells #[.int .i64 d.1.1, .string (bs d.1.2), .slice a d.2.length cap] 32)).alloc (.cells #[.int .i64 dk, .int .i64 dn, .string dt] 40)).alloc (.cells zeroDk 32)) w.heap.size d a cap dk dn dt :=
  ⟨(CellsAt.new w _ _).grown (grownBy_trans (World.grownBy_alloc _ _ none) (World.grownBy_alloc _ _ none)), (CellsAt.second w _ _ _).grown (World.grownBy_alloc _ _ none), CellsAt.third3 w _ _ _ _⟩
/-- The facts that a walk reads. -/
def Facts3 (w' : World) (h : Nat) (d : Dk) (a : Option Addr) (cap : Nat) (dk dn : Int) (dt : ByteArray) : Prop :=
  (w'.cell? ⟨h, 0, none⟩ = some (.int .i64 d.1.1) ∧ w'.cell? ⟨h, 1, none⟩ = some (.string (bs d.1.2)) ∧ w'.cell? ⟨h, 2, none⟩ = some (.slice a d.2.length cap)) ∧ (w'.cell? ⟨h + 1, 0, none⟩ = some (.int .i64 dk) ∧ w'.cell? ⟨h + 1, 1, none⟩ = some (.int .i64 dn) ∧ w'.cell? ⟨h + 1, 2, none⟩ = some (.string dt)) ∧ (w'.cell? ⟨h + 1 + 1, 0, none⟩ = some (.int .i64 0) ∧ w'.cell? ⟨h + 1 + 1, 1, none⟩ = some (.string ⟨#[]⟩) ∧ w'.cell? ⟨h + 1 + 1, 2, none⟩ = some (.slice none 0 0)) ∧ w'.frozen? ⟨h + 1 + 1, 0, none⟩ = false ∧ w'.frozen? ⟨h + 1 + 1, 1, none⟩ = false ∧ w'.frozen? ⟨h + 1 + 1, 2, none⟩ = false
theorem Box3.facts {w' : World} {h : Nat} {d : Dk} {a : Option Addr} {cap : Nat} {dk dn : Int} {dt : ByteArray} (k : Box3 w' h d a cap dk dn dt) : Facts3 w' h d a cap dk dn dt :=
  ⟨k.1.three, k.2.1.three, k.2.2.three, k.2.2.frozen 0, k.2.2.frozen 1, k.2.2.frozen 2⟩
theorem size3 (w : World) (A B C : Obj) : (((w.alloc A).alloc B).alloc C).heap.size = w.heap.size + 3 := by show (((w.heap.push _).push _).push _).size = _; rw [Array.size_push, Array.size_push, Array.size_push]
theorem do_post {w w' : World} {a : Option Addr} {xs : List Ld} {x : Ld} {cap : Nat} {b : Bool} {u v s : Value} (hg : w.grownBy w' none) (ho : OwnL w' (w.heap.size + 3) a xs) (h0 : a = none → cap = 0) (hu : u = .int .i64 x.1) (hv : v = .string (bs x.2)) (hs : s = .slice a xs.length cap) :
    DoPost ((x, xs), b) w (.returned (.tuple #[.agg #[u, v, s], .bool b])) (((w'.setCell ⟨w.heap.size + 1 + 1, 0, none⟩ u).setCell ⟨w.heap.size + 1 + 1, 1, none⟩ v).setCell ⟨w.heap.size + 1 + 1, 2, none⟩ s) := by
  subst hu hv hs
  exact ⟨a, cap, rfl, (ho.far (put3_past _ _ _ _ _) (by omega)).mono (by omega), h0, put3_grown _ hg (by omega) _ _ _⟩
theorem DoPost.more {r : Dk × Bool} {w w' w'' : World} {e : Ending} (h : DoPost r w e w') (hg : w'.grownBy w'' none) : DoPost r w e w'' := by
  obtain ⟨a, cap, he, ho, h0, hg'⟩ := h
  exact ⟨a, cap, he, ho.kept hg, h0, grownBy_trans hg' hg⟩

/-- The same of the model's: a row that was not cut may be appended to. -/
def SPost (r : Dk × Bool) (w : World) (e : Ending) (w' : World) : Prop := ∃ a cap, e = .returned (.tuple #[dkV r.1 a cap, .bool r.2]) ∧ OwnL w' w.heap.size a r.1.2 ∧ (a = none → cap = 0) ∧ w.grownBy w' none ∧ (r.1.2.length ≤ 7 → Own2 w' w.heap.size a cap r.1.2)
theorem SPost.weak {r : Dk × Bool} {w w' : World} {e : Ending} (h : SPost r w e w') : DoPost r w e w' := by
  obtain ⟨a, cap, he, ho, h0, hg, _⟩ := h
  exact ⟨a, cap, he, ho, h0, hg⟩
theorem SPost.more {r : Dk × Bool} {w w' w'' : World} {e : Ending} (h : SPost r w e w') (hg : w'.grownBy w'' none) : SPost r w e w'' := by
  obtain ⟨a, cap, he, ho, h0, hg', h2⟩ := h
  exact ⟨a, cap, he, ho.kept hg, h0, grownBy_trans hg' hg, fun q => (h2 q).kept hg⟩
theorem s_post {w w' : World} {a : Option Addr} {xs : List Ld} {x : Ld} {cap : Nat} {b : Bool} {u v s : Value} (hg : w.grownBy w' none) (ho : OwnL w' (w.heap.size + 3) a xs) (h0 : a = none → cap = 0) (hu : u = .int .i64 x.1) (hv : v = .string (bs x.2)) (hs : s = .slice a xs.length cap) (h2 : xs.length ≤ 7 → Own2 w' (w.heap.size + 3) a cap xs) :
    SPost ((x, xs), b) w (.returned (.tuple #[.agg #[u, v, s], .bool b])) (((w'.setCell ⟨w.heap.size + 1 + 1, 0, none⟩ u).setCell ⟨w.heap.size + 1 + 1, 1, none⟩ v).setCell ⟨w.heap.size + 1 + 1, 2, none⟩ s) := by
  subst hu hv hs
  exact ⟨a, cap, rfl, (ho.far (put3_past _ _ _ _ _) (by omega)).mono (by omega), h0, put3_grown _ hg (by omega) _ _ _, fun q => ((h2 q).past (put3_past _ _ _ _ _) (by omega)).mono (by omega)⟩
theorem Own2.front {w : World} {base : Nat} {a : Option Addr} {cap : Nat} {ys : List Ld} {p : Ld} (h : Own2 w base a cap (ys ++ [p])) : Own2 w base a cap ys := by
  refine ⟨by rw [ldC_len], ?_⟩
  rcases h.2 with ⟨_, h0⟩ | ⟨g, c, cur, he, hb, hg, hnc, hcm, hcs, ht⟩
  · simp at h0
  · simp only [Value.slice.injEq, true_and] at he
    obtain ⟨rfl, rfl⟩ := he
    have hl : (ys ++ [p]).length = ys.length + 1 := by simp
    refine .inr ⟨g, cap, cur, rfl, hb, hg, by omega, hcm, hcs, ?_⟩
    have e := congrArg (List.take (ys.length * 2)) ht
    rw [List.take_take, Nat.min_eq_left (by omega), ldC_app, ← ldC_len ys, List.take_left, ldC_len] at e
    exact e

set_option maxHeartbeats 1000000 in
theorem sdo_bad (d : Dk) (dk dn : Int) (dt : ByteArray) (a : Option Addr) (cap : Nat) (w : World) (h : LdsAt w a d.2) (hd : dkB d = false) :
    Calls Tryz.prog 61 #[dkV d a cap, .agg #[.int .i64 dk, .int .i64 dn, .string dt]] w (SPost (nilDk, false) w) := by
  have hb := box3_new w d a cap dk dn dt
  have g3 := made3 w (.cells #[.int .i64 d.1.1, .string (bs d.1.2), .slice a d.2.length cap] 32) (.cells #[.int .i64 dk, .int .i64 dn, .string dt] 40) (.cells zeroDk 32)
  have cc := sdesk_is d a cap _ (h.grown g3)
  rw [hd] at cc
  have HB := Lib.hid hb
  have G3 := Lib.hid g3
  clear h hb g3
  unfold dkV at *
  go_enter Tryz.func61, Tryz.ntmps61
  go_wp2_with (first | (go_at_call 13; refine cc.mono ?_; rintro e w1 ⟨rfl, hg⟩; obtain ⟨⟨d0, d1, d2⟩, ⟨e0, e1, e2⟩, ⟨r0, r1, r2⟩, f0, f1, f2⟩ := (HB.out.grown hg).facts))
  exact bodyPost_ret (resDkB (b := .bool false) rfl _ rfl rfl ((HB.out.grown hg).2.2.put3 _ _ _)) rfl (s_post (x := nilLd) (grownBy_trans G3.out hg) (OwnL.nil _ _ none) (fun _ => rfl) rfl rfl rfl (fun _ => Own2.nil _ _))

/-- What is laid behind the copy: the three blocks in the world behind it, and where they lie. -/
def Behind (w2 : World) (h : Nat) (d : Dk) (a : Option Addr) (cap : Nat) (dk dn : Int) (dt : ByteArray) : Prop := Facts3 w2 h d a cap dk dn dt ∧ h < w2.heap.size ∧ h + 1 < w2.heap.size ∧ h + 1 + 1 < w2.heap.size
theorem behind3 {w w2 : World} {d : Dk} {a : Option Addr} {cap : Nat} {dk dn : Int} {dt : ByteArray} (k : Box3 w2 w.heap.size d a cap dk dn dt) : Behind w2 w.heap.size d a cap dk dn dt :=
  ⟨k.facts, k.1.lt, k.2.1.lt, k.2.2.lt⟩
theorem last_at {w : World} {base : Nat} {a : Option Addr} {cap : Nat} {ys : List Ld} {p : Ld} (h : Own2 w base a cap (ys ++ [p])) : ∃ g, a = some ⟨g, 0, none⟩ ∧ base ≤ g ∧ g < w.heap.size ∧ w.cell? ⟨g, ys.length * 2, none⟩ = some (.int .i64 p.1) ∧ w.cell? ⟨g, ys.length * 2 + 1, none⟩ = some (.string (bs p.2)) ∧ ys.length + 1 ≤ cap ∧ cap ≤ maxLen := by
  obtain ⟨g, rfl⟩ := h.isAt (by simp)
  have hr := h.room
  rcases h.curs with h | ⟨g', cur, ha, hb, hg, hc⟩
  · simp at h
  · cases ha
    have k := hc ys.length (by simp)
    have e : (ys ++ [p]).getD ys.length nilLd = p := by simp [List.getD_eq_getElem?_getD]
    rw [e] at k
    refine ⟨g, rfl, hb, (Array.getElem?_eq_some_iff.1 hg).1, ?_, ?_, by simpa using hr.1, hr.2⟩
    · rw [cell_of_row w g _ cur _ (0, 0) hg]; exact k.1
    · rw [cell_of_row w g _ cur _ (0, 0) hg]; exact k.2

set_option maxHeartbeats 2000000 in
theorem sdo_back (x p : Ld) (ys : List Ld) (a : Option Addr) (cap : Nat) (w : World) (h : LdsAt w a (ys ++ [p])) (h0 : a = none → cap = 0) (hd : dkB (x, ys ++ [p]) = true) :
    Calls Tryz.prog 61 #[dkV (x, ys ++ [p]) a cap, .agg #[.int .i64 6, .int .i64 0, .string ⟨#[]⟩]] w (SPost ((p, ys), true) w) := by
  have hl := (dkB_of hd).2.2
  have hL : (ys ++ [p]).length = ys.length + 1 := by simp
  change (ys ++ [p]).length ≤ 8 at hl
  rw [hL] at hl
  have hb := box3_new w (x, ys ++ [p]) a cap 6 0 ⟨#[]⟩
  have g3 := made3 w (.cells #[.int .i64 x.1, .string (bs x.2), .slice a (ys ++ [p]).length cap] 32) (.cells #[.int .i64 6, .int .i64 0, .string ⟨#[]⟩] 40) (.cells zeroDk 32)
  have cc := sdesk_is (x, ys ++ [p]) a cap _ (h.grown g3)
  rw [hd] at cc
  have cs := fun w1 (hg : World.grownBy _ w1 none) => scopy_any (x, ys ++ [p]) a cap w1 ((h.grown g3).grown hg) h0 (by show (ys ++ [p]).length ≤ 9; omega)
  have HB := Lib.hid hb
  have G3 := Lib.hid g3
  clear h hb g3 h0
  unfold dkV at *
  simp only [hL] at *
  go_enter Tryz.func61, Tryz.ntmps61
  go_wp2_with (first | (go_at_call 13; refine cc.mono ?_; rintro e w1 ⟨rfl, hg⟩; obtain ⟨⟨d0, d1, d2⟩, ⟨e0, e1, e2⟩, ⟨r0, r1, r2⟩, f0, f1, f2⟩ := (HB.out.grown hg).facts) | (go_at_call 60; refine (cs _ hg).mono ?_; rintro e w2 ⟨a', cap', rfl, ho, hg2⟩; obtain ⟨⟨⟨d0, d1, d2⟩, ⟨e0, e1, e2⟩, ⟨r0, r1, r2⟩, f0, f1, f2⟩, l0, l1, l2⟩ := behind3 ((HB.out.grown hg).grown hg2); obtain ⟨g, rfl, hgb, hgl, c0, c1, hc1, hc2⟩ := last_at ho))
  exact bodyPost_ret (resDkB (b := .bool true) rfl _ rfl rfl ((((HB.out.grown hg).grown hg2).2.2.put3 _ _ _).grown (World.grownBy_alloc _ _ none))) rfl ((s_post (x := p) (xs := ys) (grownBy_trans (grownBy_trans G3.out hg) hg2) (by have := ho.last; rw [List.dropLast_concat] at this; exact this.mono (by have := hg.size; have := size3 w (.cells #[.int .i64 x.1, .string (bs x.2), .slice a (ys.length + 1) cap] 32) (.cells #[.int .i64 6, .int .i64 0, .string ⟨#[]⟩] 40) (.cells zeroDk 32); omega)) (by simp) rfl rfl rfl (fun _ => ho.front.mono (by have := hg.size; have := size3 w (.cells #[.int .i64 x.1, .string (bs x.2), .slice a (ys.length + 1) cap] 32) (.cells #[.int .i64 6, .int .i64 0, .string ⟨#[]⟩] 40) (.cells zeroDk 32); omega))).more (World.grownBy_alloc _ _ none))

/-- What l12Made answers with where nothing can be done of it, and where it can. -/
def StayPost (x : Ld) (b : Bool) (w : World) (e : Ending) (w' : World) : Prop := ∃ y : Ld, e = .returned (.tuple #[.agg #[.int .i64 y.1, .string (bs y.2)], .bool b]) ∧ (b = true → y = x) ∧ w.grownBy w' none
theorem made_stay {x : Ld} {a : Dd} (h : newD x a = none) : ∃ b, ∀ w e w', MadePost (rawD x a) w e w' → StayPost x b w e w' := by
  cases hr : rawD x a with
  | none =>
    refine ⟨false, fun w e w' => ?_⟩
    rintro ⟨⟨v, b, rfl, ⟨y, rfl⟩, hb⟩, hg⟩
    change b = false at hb
    subst hb
    exact ⟨y, rfl, by simp, hg⟩
  | some z =>
    by_cases hz : ldB z = true
    · have hx : z = x := by
        by_cases e : z = x
        · exact e
        · rw [newD_mk hr hz e] at h; cases h
      subst hx
      refine ⟨true, fun w e w' => ?_⟩
      rintro ⟨⟨v, b, rfl, _, hb⟩, hg⟩
      obtain ⟨rfl, rfl⟩ := hb.1 hz
      exact ⟨z, rfl, fun _ => rfl, hg⟩
    · refine ⟨false, fun w e w' => ?_⟩
      rintro ⟨⟨v, b, rfl, ⟨y, rfl⟩, hb⟩, hg⟩
      have := hb.2 (by simpa using hz)
      subst this
      exact ⟨y, rfl, by simp, hg⟩
theorem made_new {x y : Ld} {a : Dd} (h : newD x a = some y) {w : World} {e : Ending} {w' : World} (hm : MadePost (rawD x a) w e w') : e = .returned (.tuple #[.agg #[.int .i64 y.1, .string (bs y.2)], .bool true]) ∧ w.grownBy w' none := by
  obtain ⟨h1, h2, _⟩ := newD_of h
  rw [h1] at hm
  obtain ⟨⟨v, b, rfl, _, hb⟩, hg⟩ := hm
  obtain ⟨rfl, rfl⟩ := hb.1 h2
  exact ⟨rfl, hg⟩

/-- No deed 'back', as the walk asks it; or nothing of before. -/
def NoBack (k n : Int) (t : ByteArray) (xs : List Ld) : Prop := (k == 6) = false ∨ (n == 0) = false ∨ t.toList.isEmpty = false ∨ (k = 6 ∧ n = 0 ∧ t = ⟨#[]⟩ ∧ xs = [])
theorem behind4 {w w2 w3 : World} {X : Obj} {d : Dk} {a : Option Addr} {cap : Nat} {dk dn : Int} {dt : ByteArray} (k : Box3 w2 w.heap.size d a cap dk dn dt) (hg : (w2.alloc X).grownBy w3 none) : Behind w3 w.heap.size d a cap dk dn dt :=
  behind3 (k.grown (grownBy_trans (World.grownBy_alloc _ _ none) hg))

set_option maxHeartbeats 4000000 in
theorem sdo_stay (x : Ld) (xs : List Ld) (dk dn : Int) (dt : ByteArray) (b : Bool) (a : Option Addr) (cap : Nat) (w : World) (h : LdsAt w a xs) (h0 : a = none → cap = 0) (hd : dkB (x, xs) = true) (hn : NoBack dk dn dt xs)
    (cm : ∀ w, Calls Tryz.prog 109 #[.agg #[.int .i64 x.1, .string (bs x.2)], .agg #[.int .i64 dk, .int .i64 dn, .string dt]] w (StayPost x b w)) :
    Calls Tryz.prog 61 #[dkV (x, xs) a cap, .agg #[.int .i64 dk, .int .i64 dn, .string dt]] w (SPost ((x, xs), false) w) := by
  have hl := (dkB_of hd).2.2
  change xs.length ≤ 8 at hl
  have hb := box3_new w (x, xs) a cap dk dn dt
  have g3 := made3 w (.cells #[.int .i64 x.1, .string (bs x.2), .slice a xs.length cap] 32) (.cells #[.int .i64 dk, .int .i64 dn, .string dt] 40) (.cells zeroDk 32)
  have hz := size3 w (.cells #[.int .i64 x.1, .string (bs x.2), .slice a xs.length cap] 32) (.cells #[.int .i64 dk, .int .i64 dn, .string dt] 40) (.cells zeroDk 32)
  have cc := sdesk_is (x, xs) a cap _ (h.grown g3)
  rw [hd] at cc
  have cs := fun w1 (hg : World.grownBy _ w1 none) => scopy_any (x, xs) a cap w1 ((h.grown g3).grown hg) h0 (by show xs.length ≤ 9; omega)
  have HB := Lib.hid hb
  have G3 := Lib.hid g3
  have HZ := Lib.hid hz
  clear h hb g3 h0 hd hz
  unfold dkV at *
  unfold NoBack at hn
  rcases hn with hq | hq | hq | ⟨rfl, rfl, rfl, rfl⟩
  all_goals cases b
  all_goals
    go_enter Tryz.func61, Tryz.ntmps61
    go_wp2_with (first | (go_at_call 13; refine cc.mono ?_; rintro e w1 ⟨rfl, hg⟩; obtain ⟨⟨d0, d1, d2⟩, ⟨e0, e1, e2⟩, ⟨r0, r1, r2⟩, f0, f1, f2⟩ := (HB.out.grown hg).facts) | (go_at_call 60; refine (cs _ hg).mono ?_; rintro e w2 ⟨a', cap', rfl, ho, hg2⟩; obtain ⟨⟨⟨d0, d1, d2⟩, ⟨e0, e1, e2⟩, ⟨r0, r1, r2⟩, f0, f1, f2⟩, l0, l1, l2⟩ := behind3 ((HB.out.grown hg).grown hg2)) | (go_at_call 109; refine (cm _).mono ?_; rintro e w3 ⟨y, rfl, hy, hg3⟩; (first | (have hy := hy rfl; subst hy) | skip); obtain ⟨⟨⟨d0, d1, d2⟩, ⟨e0, e1, e2⟩, ⟨r0, r1, r2⟩, f0, f1, f2⟩, l0, l1, l2⟩ := behind4 ((HB.out.grown hg).grown hg2) hg3; obtain ⟨o0, o1, o2⟩ := ((CellsAt.new w2 _ _).grown hg3).three; have ol := ((CellsAt.new w2 _ _).grown hg3).lt))
    exact bodyPost_ret (resDkB (b := .bool false) rfl _ rfl rfl (((((HB.out.grown hg).grown hg2).grown (grownBy_trans (World.grownBy_alloc _ _ none) hg3)).2.2.put3 _ _ _).grown (World.grownBy_alloc _ _ none))) rfl ((s_post (grownBy_trans (grownBy_trans (grownBy_trans G3.out hg) hg2) (grownBy_trans (World.grownBy_alloc _ _ none) hg3)) ((ho.l.kept (grownBy_trans (World.grownBy_alloc _ _ none) hg3)).mono (by have := hg.size; have := HZ.out; omega)) ho.bare rfl rfl rfl (fun _ => (ho.kept (grownBy_trans (World.grownBy_alloc _ _ none) hg3)).mono (by have := hg.size; have := HZ.out; omega))).more (World.grownBy_alloc _ _ none))

end Go.Proofs.YtlnffpofbfigaaaGreatDoor
