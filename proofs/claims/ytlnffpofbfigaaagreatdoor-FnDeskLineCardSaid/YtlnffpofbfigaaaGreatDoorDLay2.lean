/-
  What a deed makes of a desk: impl's lay where chain or formula become others.
-/
import Derived.Test.YtlnffpofbfigaaaGreatDoorDLay
namespace Go.Proofs.YtlnffpofbfigaaaGreatDoor
open Go.RowKit

theorem held_last {A B C D : Prop} (h : A ∧ B ∧ C ∧ D) : D := h.2.2.2
theorem ldclone_in (a : Option Addr) (cap : Nat) (xs : List Ld) (w1 w2 : World) (h : LdsAt w1 a xs) (h0 : a = none → cap = 0) (hl : xs.length ≤ 9) (hg2 : w1.grownBy w2 none) :
    Calls Tryz.prog 97 #[.slice a xs.length cap] w2 fun e w' => ∃ a' cap', e = .returned (.slice a' xs.length cap') ∧ Own2 w' w1.heap.size a' cap' xs ∧ w2.grownBy w' none :=
  (ldclone_any a cap xs w2 (h.grown hg2) h0 hl).mono fun _ _ ⟨a', cap', he, ho, hg⟩ => ⟨a', cap', he, ho.mono hg2.size, hg⟩
/-- At a step of a drawn region: a pair is appended to a row of the call's own. -/
theorem step_append_ld {P : Program} {w : World} {ops : Array Oper} {o : Oper} {act : Act} {K : Act → World → Prop} {Q : Exit → Act → World → Prop} {E : Prop} (hgd : o.guard = none) (s x : Operand) (t : TypeId)
    (ho : o.op = .call { callee := .builtin .append, args := #[s, x], argTypes := #[t, t] }) (w1 : World) {i0 : TypeInfo} (ht : P.underlying t = some (.slice 29)) (hi : P.info? 29 = some i0) (hz0 : i0.zero = some (.agg #[.int .i64 0, .string ⟨#[]⟩])) (hz1 : i0.size = 2) (hz2 : i0.bytes = 24)
    (a1 : Option Addr) (cap1 : Nat) (xs : List Ld) (hs : act.eval s = .slice a1 xs.length cap1) (hown : Own2 w w1.heap.size a1 cap1 xs) (b : Nat) (p : Ld) (c : Nat) (hx : act.eval x = .slice (some ⟨b, 0, none⟩) 1 c) (hb : CellsAt w b #[.int .i64 p.1, .string (bs p.2)] 29) (hl : xs.length ≤ 8) (hG : w1.grownBy w none)
    (h : ∀ a4 cap4 w4, Own2 w4 w1.heap.size a4 cap4 (xs ++ [p]) → w1.grownBy w4 none → K (act.put o.dst (.slice a4 (xs.length + 1) cap4)) w4) :
    if Region.wanted o (yielded ops act.tmps) = true then Oper.wp P o act w K Q else E := by
  obtain ⟨v', w4, hrun, hown', hgrow, _⟩ := run_append_own (P := P) w w1.heap.size t o.type 29 i0 (.agg #[.int .i64 0, .string ⟨#[]⟩]) 2 24 ht hi hz0 hz1 hz2 rfl (by decide) _ _ _ hown ⟨b, 0, none⟩ 1 c (ldC [p]) rfl (World.news_of_block hb) (ldC_one [p]) (by unfold maxLen; omega) (by omega) hG.size
  obtain ⟨a4, cap4, rfl, ho4⟩ := own2_more hown'
  exact step_append_run hgd s x t ho _ _ hs hx _ _ hrun (h a4 cap4 w4 ho4 (grow_own2 hG hown (Nat.le_refl _) hgrow))

set_option maxRecDepth 8000 in
set_option maxHeartbeats 1000000 in
theorem lay_am (m k : Int) (s u : List UInt8) (xs : List Ld) (a : Option Addr) (cap : Nat) (w : World) (h : LdsAt w a xs) (h0 : a = none → cap = 0) (hl : xs.length ≤ 8) (hq : (k == m) = false) (hk : ldB (k, u) = true) (hge : xs.length = 8) :
    Calls Tryz.prog 102 #[.agg #[.int .i64 m, .string (bs s), .slice a xs.length cap], .agg #[.int .i64 k, .string (bs u)]] w (DoPost (((k, u), (xs ++ [(m, s)]).drop 1), true) w) := by
  have hb := layB_new w m s a xs.length cap k u
  have g3 := made3 w (.cells #[.int .i64 m, .string (bs s), .slice a xs.length cap] 32) (.cells #[.int .i64 k, .string (bs u)] 29) (.cells #[.int .i64 0, .string ⟨#[]⟩, .slice none 0 0] 32)
  have hz := size3 w (.cells #[.int .i64 m, .string (bs s), .slice a xs.length cap] 32) (.cells #[.int .i64 k, .string (bs u)] 29) (.cells #[.int .i64 0, .string ⟨#[]⟩, .slice none 0 0] 32)
  have cl := ilaid_any (k, u)
  rw [hk] at cl
  unfold ldV at cl
  obtain ⟨i0, hi, hz0, hz1, hz2⟩ := info_parts infoLd
  have cc := fun w1 (hg : World.grownBy _ w1 none) (w2 : World) (hg2 : w1.grownBy w2 none) => ldclone_in a cap xs w1 w2 ((h.grown g3).grown hg) h0 (by omega) hg2
  have HB := Lib.hid hb
  have G3 := Lib.hid g3
  have HZ := Lib.hid hz
  have HE := Lib.hid hge
  clear h hb g3 h0 hz hk hge
  go_enter Tryz.func102, Tryz.ntmps102
  go_wp2_with (first | (go_at_call 78; refine (cl _).mono ?_; rintro e w1 ⟨rfl, hg⟩; obtain ⟨⟨d0, d1, d2⟩, ⟨e0, e1⟩, ⟨r0, r1, r2⟩, f0, f1, f2⟩ := (HB.out.grown hg).facts))
  have hb3 : w.heap.size + 3 ≤ w1.heap.size := by have := hg.size; have := HZ.out; omega
  have mkS : ∀ w' : World, w1.grownBy w' none → (w'.cell? ⟨w.heap.size, 0, none⟩ = some (.int .i64 m) ∧ w'.cell? ⟨w.heap.size, 1, none⟩ = some (.string (bs s)) ∧ w'.cell? ⟨w.heap.size, 2, none⟩ = some (.slice a xs.length cap) ∧ w1.grownBy w' none) := fun w' hg' => ⟨((HB.out.grown hg).grown hg').facts.1.1, ((HB.out.grown hg).grown hg').facts.1.2.1, ((HB.out.grown hg).grown hg').facts.1.2.2, hg'⟩
  have MS := Lib.hid mkS
  have CC : ∀ w2 : World, w1.grownBy w2 none → Calls Tryz.prog 97 #[.slice a xs.length cap] w2 fun e w' => ∃ a' cap', e = .returned (.slice a' xs.length cap') ∧ Own2 w' w1.heap.size a' cap' xs ∧ w2.grownBy w' none := cc w1 hg
  clear mkS cc
  go_region_held_law (fun w' : World => w'.cell? ⟨w.heap.size, 0, none⟩ = some (.int .i64 m) ∧ w'.cell? ⟨w.heap.size, 1, none⟩ = some (.string (bs s)) ∧ w'.cell? ⟨w.heap.size, 2, none⟩ = some (.slice a xs.length cap) ∧ w1.grownBy w' none) (first | exact MS.out _ (by assumption) | exact MS.out _ (grownBy_drew (grownBy_refl _ _)) | exact MS.out _ (grownBy_trans (held_last (by assumption)) (by assumption)) | exact MS.out _ (grownBy_trans (held_last (by assumption)) (World.grownBy_alloc _ _ none)) | (trace_state; fail)) (first | (go_at_call 97; refine (CC _ (held_last (by assumption))).mono ?_; rintro e w2 ⟨a1, cap1, rfl, ho, hg2⟩) | (refine step_append_ld (by rfl) _ _ _ (by rfl) w1 Tryz.underlying30 hi hz0 hz1 hz2 _ _ xs (by rfl) (by first | exact ho | exact ho.kept (World.grownBy_alloc _ _ none)) _ (m, s) _ (by rfl) (by first | exact CellsAt.new _ _ _ | exact (CellsAt.new _ _ _).grown hg2 | exact (CellsAt.new _ _ _).grown (drew_grown hg2)) (by omega) (held_last (by assumption)) ?_; intro a4 cap4 w4 ho4 hg4))
  all_goals
    obtain ⟨g4, rfl⟩ := ho4.isAt (by simp)
    obtain ⟨hrm, hrM⟩ := ho4.room
    simp only [List.length_append, List.length_singleton] at hrm
    unfold maxLen at hrM
    have BB := Lib.hid ((HB.out.grown hg).grown hg4)
    obtain ⟨⟨d0, d1, d2⟩, ⟨e0, e1⟩, ⟨r0, r1, r2⟩, f0, f1, f2⟩ := BB.out.facts
    have P := Lib.hid (do_post (x := (k, u)) (b := true) (u := .int .i64 k) (v := .string (bs u)) (s := (.slice (some ⟨g4, 2, none⟩) 8 (cap4 - 1))) (grownBy_trans (grownBy_trans G3.out hg) hg4) (ho4.tail.mono (base' := w.heap.size + 3) hb3) (cap := (cap4 - 1)) (by simp) rfl rfl (by rw [(show ((xs ++ [(m, s)]).drop 1).length = 8 by rw [List.length_drop, List.length_append, HE.out]; rfl)])).drew
    have F := Lib.hid (BB.out.2.2.put3 (.int .i64 k) (.string (bs u)) (.slice (some ⟨g4, 2, none⟩) 8 (cap4 - 1)))
    have K1 := Lib.hid (show w4.drew.cell? ⟨w.heap.size + 1, 0, none⟩ = some (.int .i64 k) ∧ w4.drew.cell? ⟨w.heap.size + 1, 1, none⟩ = some (.string (bs u)) from ⟨e0, e1⟩)
    have K2 := Lib.hid (show _ ∧ _ from ((BB.out.2.1.kept (put3_past w4 (w.heap.size + 1 + 1) (.int .i64 k) (.string (bs u)) (.slice (some ⟨g4, 2, none⟩) 8 (cap4 - 1))) (by simp)).grown (grownBy_drew (grownBy_refl _ none))).pair2)
    clear CC MS ho4 hg4
    simp only [HE.out] at *
    have hc1 : ¬ cap4 = 1 := by omega
  all_goals go_wp2
  all_goals go_region_held_law (fun w' : World => w'.cell? ⟨w.heap.size + 1, 0, none⟩ = some (.int .i64 k) ∧ w'.cell? ⟨w.heap.size + 1, 1, none⟩ = some (.string (bs u))) (first | exact K1.out | exact K2.out | (trace_state; fail)) (fail)
  all_goals go_wp2
  all_goals exact bodyPost_ret (v := .tuple #[.agg #[.int .i64 k, .string (bs u), (.slice (some ⟨g4, 2, none⟩) 8 (cap4 - 1))], .bool true]) (resDkB (b := .bool true) rfl _ rfl rfl F.out) rfl P.out

set_option maxRecDepth 8000 in
set_option maxHeartbeats 1000000 in
theorem lay_ak (k : Int) (s u : List UInt8) (xs : List Ld) (a : Option Addr) (cap : Nat) (w : World) (h : LdsAt w a xs) (h0 : a = none → cap = 0) (hl : xs.length ≤ 8) (hq : ((bs u).toList == (bs s).toList) = false) (hk : ldB (k, u) = true) (hge : xs.length = 8) :
    Calls Tryz.prog 102 #[.agg #[.int .i64 k, .string (bs s), .slice a xs.length cap], .agg #[.int .i64 k, .string (bs u)]] w (DoPost (((k, u), (xs ++ [(k, s)]).drop 1), true) w) := by
  have hb := layB_new w k s a xs.length cap k u
  have g3 := made3 w (.cells #[.int .i64 k, .string (bs s), .slice a xs.length cap] 32) (.cells #[.int .i64 k, .string (bs u)] 29) (.cells #[.int .i64 0, .string ⟨#[]⟩, .slice none 0 0] 32)
  have hz := size3 w (.cells #[.int .i64 k, .string (bs s), .slice a xs.length cap] 32) (.cells #[.int .i64 k, .string (bs u)] 29) (.cells #[.int .i64 0, .string ⟨#[]⟩, .slice none 0 0] 32)
  have cl := ilaid_any (k, u)
  rw [hk] at cl
  unfold ldV at cl
  obtain ⟨i0, hi, hz0, hz1, hz2⟩ := info_parts infoLd
  have cc := fun w1 (hg : World.grownBy _ w1 none) (w2 : World) (hg2 : w1.grownBy w2 none) => ldclone_in a cap xs w1 w2 ((h.grown g3).grown hg) h0 (by omega) hg2
  have HB := Lib.hid hb
  have G3 := Lib.hid g3
  have HZ := Lib.hid hz
  have HE := Lib.hid hge
  clear h hb g3 h0 hz hk hge
  go_enter Tryz.func102, Tryz.ntmps102
  go_wp2_with (first | (go_at_call 78; refine (cl _).mono ?_; rintro e w1 ⟨rfl, hg⟩; obtain ⟨⟨d0, d1, d2⟩, ⟨e0, e1⟩, ⟨r0, r1, r2⟩, f0, f1, f2⟩ := (HB.out.grown hg).facts))
  have hb3 : w.heap.size + 3 ≤ w1.heap.size := by have := hg.size; have := HZ.out; omega
  have mkS : ∀ w' : World, w1.grownBy w' none → (w'.cell? ⟨w.heap.size, 0, none⟩ = some (.int .i64 k) ∧ w'.cell? ⟨w.heap.size, 1, none⟩ = some (.string (bs s)) ∧ w'.cell? ⟨w.heap.size, 2, none⟩ = some (.slice a xs.length cap) ∧ w1.grownBy w' none) := fun w' hg' => ⟨((HB.out.grown hg).grown hg').facts.1.1, ((HB.out.grown hg).grown hg').facts.1.2.1, ((HB.out.grown hg).grown hg').facts.1.2.2, hg'⟩
  have MS := Lib.hid mkS
  have CC : ∀ w2 : World, w1.grownBy w2 none → Calls Tryz.prog 97 #[.slice a xs.length cap] w2 fun e w' => ∃ a' cap', e = .returned (.slice a' xs.length cap') ∧ Own2 w' w1.heap.size a' cap' xs ∧ w2.grownBy w' none := cc w1 hg
  clear mkS cc
  go_region_held_law (fun w' : World => w'.cell? ⟨w.heap.size, 0, none⟩ = some (.int .i64 k) ∧ w'.cell? ⟨w.heap.size, 1, none⟩ = some (.string (bs s)) ∧ w'.cell? ⟨w.heap.size, 2, none⟩ = some (.slice a xs.length cap) ∧ w1.grownBy w' none) (first | exact MS.out _ (by assumption) | exact MS.out _ (grownBy_drew (grownBy_refl _ _)) | exact MS.out _ (grownBy_trans (held_last (by assumption)) (by assumption)) | exact MS.out _ (grownBy_trans (held_last (by assumption)) (World.grownBy_alloc _ _ none)) | (trace_state; fail)) (first | (go_at_call 97; refine (CC _ (held_last (by assumption))).mono ?_; rintro e w2 ⟨a1, cap1, rfl, ho, hg2⟩) | (refine step_append_ld (by rfl) _ _ _ (by rfl) w1 Tryz.underlying30 hi hz0 hz1 hz2 _ _ xs (by rfl) (by first | exact ho | exact ho.kept (World.grownBy_alloc _ _ none)) _ (k, s) _ (by rfl) (by first | exact CellsAt.new _ _ _ | exact (CellsAt.new _ _ _).grown hg2 | exact (CellsAt.new _ _ _).grown (drew_grown hg2)) (by omega) (held_last (by assumption)) ?_; intro a4 cap4 w4 ho4 hg4))
  all_goals
    obtain ⟨g4, rfl⟩ := ho4.isAt (by simp)
    obtain ⟨hrm, hrM⟩ := ho4.room
    simp only [List.length_append, List.length_singleton] at hrm
    unfold maxLen at hrM
    have BB := Lib.hid ((HB.out.grown hg).grown hg4)
    obtain ⟨⟨d0, d1, d2⟩, ⟨e0, e1⟩, ⟨r0, r1, r2⟩, f0, f1, f2⟩ := BB.out.facts
    have P := Lib.hid (do_post (x := (k, u)) (b := true) (u := .int .i64 k) (v := .string (bs u)) (s := (.slice (some ⟨g4, 2, none⟩) 8 (cap4 - 1))) (grownBy_trans (grownBy_trans G3.out hg) hg4) (ho4.tail.mono (base' := w.heap.size + 3) hb3) (cap := (cap4 - 1)) (by simp) rfl rfl (by rw [(show ((xs ++ [(k, s)]).drop 1).length = 8 by rw [List.length_drop, List.length_append, HE.out]; rfl)])).drew
    have F := Lib.hid (BB.out.2.2.put3 (.int .i64 k) (.string (bs u)) (.slice (some ⟨g4, 2, none⟩) 8 (cap4 - 1)))
    have K1 := Lib.hid (show w4.drew.cell? ⟨w.heap.size + 1, 0, none⟩ = some (.int .i64 k) ∧ w4.drew.cell? ⟨w.heap.size + 1, 1, none⟩ = some (.string (bs u)) from ⟨e0, e1⟩)
    have K2 := Lib.hid (show _ ∧ _ from ((BB.out.2.1.kept (put3_past w4 (w.heap.size + 1 + 1) (.int .i64 k) (.string (bs u)) (.slice (some ⟨g4, 2, none⟩) 8 (cap4 - 1))) (by simp)).grown (grownBy_drew (grownBy_refl _ none))).pair2)
    clear CC MS ho4 hg4
    simp only [HE.out] at *
    have hc1 : ¬ cap4 = 1 := by omega
  all_goals go_wp2
  all_goals go_region_held_law (fun w' : World => w'.cell? ⟨w.heap.size + 1, 0, none⟩ = some (.int .i64 k) ∧ w'.cell? ⟨w.heap.size + 1, 1, none⟩ = some (.string (bs u))) (first | exact K1.out | exact K2.out | (trace_state; fail)) (fail)
  all_goals go_wp2
  all_goals exact bodyPost_ret (v := .tuple #[.agg #[.int .i64 k, .string (bs u), (.slice (some ⟨g4, 2, none⟩) 8 (cap4 - 1))], .bool true]) (resDkB (b := .bool true) rfl _ rfl rfl F.out) rfl P.out

set_option maxRecDepth 8000 in
set_option maxHeartbeats 1000000 in
theorem lay_bm (m k : Int) (s u : List UInt8) (xs : List Ld) (a : Option Addr) (cap : Nat) (w : World) (h : LdsAt w a xs) (h0 : a = none → cap = 0) (hl : xs.length ≤ 8) (hq : (k == m) = false) (hk : ldB (k, u) = true) (hge : xs.length = 7) :
    Calls Tryz.prog 102 #[.agg #[.int .i64 m, .string (bs s), .slice a xs.length cap], .agg #[.int .i64 k, .string (bs u)]] w (DoPost (((k, u), xs ++ [(m, s)]), true) w) := by
  have hb := layB_new w m s a xs.length cap k u
  have g3 := made3 w (.cells #[.int .i64 m, .string (bs s), .slice a xs.length cap] 32) (.cells #[.int .i64 k, .string (bs u)] 29) (.cells #[.int .i64 0, .string ⟨#[]⟩, .slice none 0 0] 32)
  have hz := size3 w (.cells #[.int .i64 m, .string (bs s), .slice a xs.length cap] 32) (.cells #[.int .i64 k, .string (bs u)] 29) (.cells #[.int .i64 0, .string ⟨#[]⟩, .slice none 0 0] 32)
  have cl := ilaid_any (k, u)
  rw [hk] at cl
  unfold ldV at cl
  obtain ⟨i0, hi, hz0, hz1, hz2⟩ := info_parts infoLd
  have cc := fun w1 (hg : World.grownBy _ w1 none) (w2 : World) (hg2 : w1.grownBy w2 none) => ldclone_in a cap xs w1 w2 ((h.grown g3).grown hg) h0 (by omega) hg2
  have HB := Lib.hid hb
  have G3 := Lib.hid g3
  have HZ := Lib.hid hz
  have HE := Lib.hid hge
  clear h hb g3 h0 hz hk hge
  go_enter Tryz.func102, Tryz.ntmps102
  go_wp2_with (first | (go_at_call 78; refine (cl _).mono ?_; rintro e w1 ⟨rfl, hg⟩; obtain ⟨⟨d0, d1, d2⟩, ⟨e0, e1⟩, ⟨r0, r1, r2⟩, f0, f1, f2⟩ := (HB.out.grown hg).facts))
  have hb3 : w.heap.size + 3 ≤ w1.heap.size := by have := hg.size; have := HZ.out; omega
  have mkS : ∀ w' : World, w1.grownBy w' none → (w'.cell? ⟨w.heap.size, 0, none⟩ = some (.int .i64 m) ∧ w'.cell? ⟨w.heap.size, 1, none⟩ = some (.string (bs s)) ∧ w'.cell? ⟨w.heap.size, 2, none⟩ = some (.slice a xs.length cap) ∧ w1.grownBy w' none) := fun w' hg' => ⟨((HB.out.grown hg).grown hg').facts.1.1, ((HB.out.grown hg).grown hg').facts.1.2.1, ((HB.out.grown hg).grown hg').facts.1.2.2, hg'⟩
  have MS := Lib.hid mkS
  have CC : ∀ w2 : World, w1.grownBy w2 none → Calls Tryz.prog 97 #[.slice a xs.length cap] w2 fun e w' => ∃ a' cap', e = .returned (.slice a' xs.length cap') ∧ Own2 w' w1.heap.size a' cap' xs ∧ w2.grownBy w' none := cc w1 hg
  clear mkS cc
  go_region_held_law (fun w' : World => w'.cell? ⟨w.heap.size, 0, none⟩ = some (.int .i64 m) ∧ w'.cell? ⟨w.heap.size, 1, none⟩ = some (.string (bs s)) ∧ w'.cell? ⟨w.heap.size, 2, none⟩ = some (.slice a xs.length cap) ∧ w1.grownBy w' none) (first | exact MS.out _ (by assumption) | exact MS.out _ (grownBy_drew (grownBy_refl _ _)) | exact MS.out _ (grownBy_trans (held_last (by assumption)) (by assumption)) | exact MS.out _ (grownBy_trans (held_last (by assumption)) (World.grownBy_alloc _ _ none)) | (trace_state; fail)) (first | (go_at_call 97; refine (CC _ (held_last (by assumption))).mono ?_; rintro e w2 ⟨a1, cap1, rfl, ho, hg2⟩) | (refine step_append_ld (by rfl) _ _ _ (by rfl) w1 Tryz.underlying30 hi hz0 hz1 hz2 _ _ xs (by rfl) (by first | exact ho | exact ho.kept (World.grownBy_alloc _ _ none)) _ (m, s) _ (by rfl) (by first | exact CellsAt.new _ _ _ | exact (CellsAt.new _ _ _).grown hg2 | exact (CellsAt.new _ _ _).grown (drew_grown hg2)) (by omega) (held_last (by assumption)) ?_; intro a4 cap4 w4 ho4 hg4))
  all_goals
    obtain ⟨g4, rfl⟩ := ho4.isAt (by simp)
    obtain ⟨hrm, hrM⟩ := ho4.room
    simp only [List.length_append, List.length_singleton] at hrm
    unfold maxLen at hrM
    have BB := Lib.hid ((HB.out.grown hg).grown hg4)
    obtain ⟨⟨d0, d1, d2⟩, ⟨e0, e1⟩, ⟨r0, r1, r2⟩, f0, f1, f2⟩ := BB.out.facts
    have P := Lib.hid (do_post (x := (k, u)) (b := true) (u := .int .i64 k) (v := .string (bs u)) (s := (.slice (some ⟨g4, 0, none⟩) 8 cap4)) (grownBy_trans (grownBy_trans G3.out hg) hg4) (ho4.l.mono (base' := w.heap.size + 3) hb3) (cap := cap4) (by simp) rfl rfl (by rw [(show (xs ++ [(m, s)]).length = 8 by rw [List.length_append, HE.out]; rfl)])).drew
    have F := Lib.hid (BB.out.2.2.put3 (.int .i64 k) (.string (bs u)) (.slice (some ⟨g4, 0, none⟩) 8 cap4))
    have K1 := Lib.hid (show w4.drew.cell? ⟨w.heap.size + 1, 0, none⟩ = some (.int .i64 k) ∧ w4.drew.cell? ⟨w.heap.size + 1, 1, none⟩ = some (.string (bs u)) from ⟨e0, e1⟩)
    have K2 := Lib.hid (show _ ∧ _ from ((BB.out.2.1.kept (put3_past w4 (w.heap.size + 1 + 1) (.int .i64 k) (.string (bs u)) (.slice (some ⟨g4, 0, none⟩) 8 cap4)) (by simp)).grown (grownBy_drew (grownBy_refl _ none))).pair2)
    clear CC MS ho4 hg4
    simp only [HE.out] at *
    have hc0 : ¬ cap4 = 0 := by omega
  all_goals go_wp2
  all_goals go_region_held_law (fun w' : World => w'.cell? ⟨w.heap.size + 1, 0, none⟩ = some (.int .i64 k) ∧ w'.cell? ⟨w.heap.size + 1, 1, none⟩ = some (.string (bs u))) (first | exact K1.out | exact K2.out | (trace_state; fail)) (fail)
  all_goals go_wp2
  all_goals exact bodyPost_ret (v := .tuple #[.agg #[.int .i64 k, .string (bs u), (.slice (some ⟨g4, 0, none⟩) 8 cap4)], .bool true]) (resDkB (b := .bool true) rfl _ rfl rfl F.out) rfl P.out

set_option maxRecDepth 8000 in
set_option maxHeartbeats 1000000 in
theorem lay_bk (k : Int) (s u : List UInt8) (xs : List Ld) (a : Option Addr) (cap : Nat) (w : World) (h : LdsAt w a xs) (h0 : a = none → cap = 0) (hl : xs.length ≤ 8) (hq : ((bs u).toList == (bs s).toList) = false) (hk : ldB (k, u) = true) (hge : xs.length = 7) :
    Calls Tryz.prog 102 #[.agg #[.int .i64 k, .string (bs s), .slice a xs.length cap], .agg #[.int .i64 k, .string (bs u)]] w (DoPost (((k, u), xs ++ [(k, s)]), true) w) := by
  have hb := layB_new w k s a xs.length cap k u
  have g3 := made3 w (.cells #[.int .i64 k, .string (bs s), .slice a xs.length cap] 32) (.cells #[.int .i64 k, .string (bs u)] 29) (.cells #[.int .i64 0, .string ⟨#[]⟩, .slice none 0 0] 32)
  have hz := size3 w (.cells #[.int .i64 k, .string (bs s), .slice a xs.length cap] 32) (.cells #[.int .i64 k, .string (bs u)] 29) (.cells #[.int .i64 0, .string ⟨#[]⟩, .slice none 0 0] 32)
  have cl := ilaid_any (k, u)
  rw [hk] at cl
  unfold ldV at cl
  obtain ⟨i0, hi, hz0, hz1, hz2⟩ := info_parts infoLd
  have cc := fun w1 (hg : World.grownBy _ w1 none) (w2 : World) (hg2 : w1.grownBy w2 none) => ldclone_in a cap xs w1 w2 ((h.grown g3).grown hg) h0 (by omega) hg2
  have HB := Lib.hid hb
  have G3 := Lib.hid g3
  have HZ := Lib.hid hz
  have HE := Lib.hid hge
  clear h hb g3 h0 hz hk hge
  go_enter Tryz.func102, Tryz.ntmps102
  go_wp2_with (first | (go_at_call 78; refine (cl _).mono ?_; rintro e w1 ⟨rfl, hg⟩; obtain ⟨⟨d0, d1, d2⟩, ⟨e0, e1⟩, ⟨r0, r1, r2⟩, f0, f1, f2⟩ := (HB.out.grown hg).facts))
  have hb3 : w.heap.size + 3 ≤ w1.heap.size := by have := hg.size; have := HZ.out; omega
  have mkS : ∀ w' : World, w1.grownBy w' none → (w'.cell? ⟨w.heap.size, 0, none⟩ = some (.int .i64 k) ∧ w'.cell? ⟨w.heap.size, 1, none⟩ = some (.string (bs s)) ∧ w'.cell? ⟨w.heap.size, 2, none⟩ = some (.slice a xs.length cap) ∧ w1.grownBy w' none) := fun w' hg' => ⟨((HB.out.grown hg).grown hg').facts.1.1, ((HB.out.grown hg).grown hg').facts.1.2.1, ((HB.out.grown hg).grown hg').facts.1.2.2, hg'⟩
  have MS := Lib.hid mkS
  have CC : ∀ w2 : World, w1.grownBy w2 none → Calls Tryz.prog 97 #[.slice a xs.length cap] w2 fun e w' => ∃ a' cap', e = .returned (.slice a' xs.length cap') ∧ Own2 w' w1.heap.size a' cap' xs ∧ w2.grownBy w' none := cc w1 hg
  clear mkS cc
  go_region_held_law (fun w' : World => w'.cell? ⟨w.heap.size, 0, none⟩ = some (.int .i64 k) ∧ w'.cell? ⟨w.heap.size, 1, none⟩ = some (.string (bs s)) ∧ w'.cell? ⟨w.heap.size, 2, none⟩ = some (.slice a xs.length cap) ∧ w1.grownBy w' none) (first | exact MS.out _ (by assumption) | exact MS.out _ (grownBy_drew (grownBy_refl _ _)) | exact MS.out _ (grownBy_trans (held_last (by assumption)) (by assumption)) | exact MS.out _ (grownBy_trans (held_last (by assumption)) (World.grownBy_alloc _ _ none)) | (trace_state; fail)) (first | (go_at_call 97; refine (CC _ (held_last (by assumption))).mono ?_; rintro e w2 ⟨a1, cap1, rfl, ho, hg2⟩) | (refine step_append_ld (by rfl) _ _ _ (by rfl) w1 Tryz.underlying30 hi hz0 hz1 hz2 _ _ xs (by rfl) (by first | exact ho | exact ho.kept (World.grownBy_alloc _ _ none)) _ (k, s) _ (by rfl) (by first | exact CellsAt.new _ _ _ | exact (CellsAt.new _ _ _).grown hg2 | exact (CellsAt.new _ _ _).grown (drew_grown hg2)) (by omega) (held_last (by assumption)) ?_; intro a4 cap4 w4 ho4 hg4))
  all_goals
    obtain ⟨g4, rfl⟩ := ho4.isAt (by simp)
    obtain ⟨hrm, hrM⟩ := ho4.room
    simp only [List.length_append, List.length_singleton] at hrm
    unfold maxLen at hrM
    have BB := Lib.hid ((HB.out.grown hg).grown hg4)
    obtain ⟨⟨d0, d1, d2⟩, ⟨e0, e1⟩, ⟨r0, r1, r2⟩, f0, f1, f2⟩ := BB.out.facts
    have P := Lib.hid (do_post (x := (k, u)) (b := true) (u := .int .i64 k) (v := .string (bs u)) (s := (.slice (some ⟨g4, 0, none⟩) 8 cap4)) (grownBy_trans (grownBy_trans G3.out hg) hg4) (ho4.l.mono (base' := w.heap.size + 3) hb3) (cap := cap4) (by simp) rfl rfl (by rw [(show (xs ++ [(k, s)]).length = 8 by rw [List.length_append, HE.out]; rfl)])).drew
    have F := Lib.hid (BB.out.2.2.put3 (.int .i64 k) (.string (bs u)) (.slice (some ⟨g4, 0, none⟩) 8 cap4))
    have K1 := Lib.hid (show w4.drew.cell? ⟨w.heap.size + 1, 0, none⟩ = some (.int .i64 k) ∧ w4.drew.cell? ⟨w.heap.size + 1, 1, none⟩ = some (.string (bs u)) from ⟨e0, e1⟩)
    have K2 := Lib.hid (show _ ∧ _ from ((BB.out.2.1.kept (put3_past w4 (w.heap.size + 1 + 1) (.int .i64 k) (.string (bs u)) (.slice (some ⟨g4, 0, none⟩) 8 cap4)) (by simp)).grown (grownBy_drew (grownBy_refl _ none))).pair2)
    clear CC MS ho4 hg4
    simp only [HE.out] at *
    have hc0 : ¬ cap4 = 0 := by omega
  all_goals go_wp2
  all_goals go_region_held_law (fun w' : World => w'.cell? ⟨w.heap.size + 1, 0, none⟩ = some (.int .i64 k) ∧ w'.cell? ⟨w.heap.size + 1, 1, none⟩ = some (.string (bs u))) (first | exact K1.out | exact K2.out | (trace_state; fail)) (fail)
  all_goals go_wp2
  all_goals exact bodyPost_ret (v := .tuple #[.agg #[.int .i64 k, .string (bs u), (.slice (some ⟨g4, 0, none⟩) 8 cap4)], .bool true]) (resDkB (b := .bool true) rfl _ rfl rfl F.out) rfl P.out

set_option maxRecDepth 8000 in
set_option maxHeartbeats 1000000 in
theorem lay_cm (m k : Int) (s u : List UInt8) (xs : List Ld) (a : Option Addr) (cap : Nat) (w : World) (h : LdsAt w a xs) (h0 : a = none → cap = 0) (hl : xs.length ≤ 8) (hq : (k == m) = false) (hk : ldB (k, u) = true) (hge : xs.length ≤ 6) :
    Calls Tryz.prog 102 #[.agg #[.int .i64 m, .string (bs s), .slice a xs.length cap], .agg #[.int .i64 k, .string (bs u)]] w (DoPost (((k, u), xs ++ [(m, s)]), true) w) := by
  have hb := layB_new w m s a xs.length cap k u
  have g3 := made3 w (.cells #[.int .i64 m, .string (bs s), .slice a xs.length cap] 32) (.cells #[.int .i64 k, .string (bs u)] 29) (.cells #[.int .i64 0, .string ⟨#[]⟩, .slice none 0 0] 32)
  have hz := size3 w (.cells #[.int .i64 m, .string (bs s), .slice a xs.length cap] 32) (.cells #[.int .i64 k, .string (bs u)] 29) (.cells #[.int .i64 0, .string ⟨#[]⟩, .slice none 0 0] 32)
  have cl := ilaid_any (k, u)
  rw [hk] at cl
  unfold ldV at cl
  obtain ⟨i0, hi, hz0, hz1, hz2⟩ := info_parts infoLd
  have cc := fun w1 (hg : World.grownBy _ w1 none) (w2 : World) (hg2 : w1.grownBy w2 none) => ldclone_in a cap xs w1 w2 ((h.grown g3).grown hg) h0 (by omega) hg2
  have HB := Lib.hid hb
  have G3 := Lib.hid g3
  have HZ := Lib.hid hz
  have HE := Lib.hid hge
  clear h hb g3 h0 hz hk hge
  go_enter Tryz.func102, Tryz.ntmps102
  go_wp2_with (first | (go_at_call 78; refine (cl _).mono ?_; rintro e w1 ⟨rfl, hg⟩; obtain ⟨⟨d0, d1, d2⟩, ⟨e0, e1⟩, ⟨r0, r1, r2⟩, f0, f1, f2⟩ := (HB.out.grown hg).facts))
  have hb3 : w.heap.size + 3 ≤ w1.heap.size := by have := hg.size; have := HZ.out; omega
  have mkS : ∀ w' : World, w1.grownBy w' none → (w'.cell? ⟨w.heap.size, 0, none⟩ = some (.int .i64 m) ∧ w'.cell? ⟨w.heap.size, 1, none⟩ = some (.string (bs s)) ∧ w'.cell? ⟨w.heap.size, 2, none⟩ = some (.slice a xs.length cap) ∧ w1.grownBy w' none) := fun w' hg' => ⟨((HB.out.grown hg).grown hg').facts.1.1, ((HB.out.grown hg).grown hg').facts.1.2.1, ((HB.out.grown hg).grown hg').facts.1.2.2, hg'⟩
  have MS := Lib.hid mkS
  have CC : ∀ w2 : World, w1.grownBy w2 none → Calls Tryz.prog 97 #[.slice a xs.length cap] w2 fun e w' => ∃ a' cap', e = .returned (.slice a' xs.length cap') ∧ Own2 w' w1.heap.size a' cap' xs ∧ w2.grownBy w' none := cc w1 hg
  clear mkS cc
  go_region_held_law (fun w' : World => w'.cell? ⟨w.heap.size, 0, none⟩ = some (.int .i64 m) ∧ w'.cell? ⟨w.heap.size, 1, none⟩ = some (.string (bs s)) ∧ w'.cell? ⟨w.heap.size, 2, none⟩ = some (.slice a xs.length cap) ∧ w1.grownBy w' none) (first | exact MS.out _ (by assumption) | exact MS.out _ (grownBy_drew (grownBy_refl _ _)) | exact MS.out _ (grownBy_trans (held_last (by assumption)) (by assumption)) | exact MS.out _ (grownBy_trans (held_last (by assumption)) (World.grownBy_alloc _ _ none)) | (trace_state; fail)) (first | (go_at_call 97; refine (CC _ (held_last (by assumption))).mono ?_; rintro e w2 ⟨a1, cap1, rfl, ho, hg2⟩) | (refine step_append_ld (by rfl) _ _ _ (by rfl) w1 Tryz.underlying30 hi hz0 hz1 hz2 _ _ xs (by rfl) (by first | exact ho | exact ho.kept (World.grownBy_alloc _ _ none)) _ (m, s) _ (by rfl) (by first | exact CellsAt.new _ _ _ | exact (CellsAt.new _ _ _).grown hg2 | exact (CellsAt.new _ _ _).grown (drew_grown hg2)) (by omega) (held_last (by assumption)) ?_; intro a4 cap4 w4 ho4 hg4))
  all_goals
    obtain ⟨g4, rfl⟩ := ho4.isAt (by simp)
    obtain ⟨hrm, hrM⟩ := ho4.room
    simp only [List.length_append, List.length_singleton] at hrm
    unfold maxLen at hrM
    have BB := Lib.hid ((HB.out.grown hg).grown hg4)
    obtain ⟨⟨d0, d1, d2⟩, ⟨e0, e1⟩, ⟨r0, r1, r2⟩, f0, f1, f2⟩ := BB.out.facts
    have P := Lib.hid (do_post (x := (k, u)) (b := true) (u := .int .i64 k) (v := .string (bs u)) (s := (.slice (some ⟨g4, 0, none⟩) (xs.length + 1) cap4)) (grownBy_trans (grownBy_trans G3.out hg) hg4) (ho4.l.mono (base' := w.heap.size + 3) hb3) (cap := cap4) (by simp) rfl rfl (by rw [(show (xs ++ [(m, s)]).length = xs.length + 1 by rw [List.length_append]; rfl)])).drew
    have F := Lib.hid (BB.out.2.2.put3 (.int .i64 k) (.string (bs u)) (.slice (some ⟨g4, 0, none⟩) (xs.length + 1) cap4))
    have K1 := Lib.hid (show w4.drew.cell? ⟨w.heap.size + 1, 0, none⟩ = some (.int .i64 k) ∧ w4.drew.cell? ⟨w.heap.size + 1, 1, none⟩ = some (.string (bs u)) from ⟨e0, e1⟩)
    have K2 := Lib.hid (show _ ∧ _ from ((BB.out.2.1.kept (put3_past w4 (w.heap.size + 1 + 1) (.int .i64 k) (.string (bs u)) (.slice (some ⟨g4, 0, none⟩) (xs.length + 1) cap4)) (by simp)).grown (grownBy_drew (grownBy_refl _ none))).pair2)
    clear CC MS ho4 hg4
    have he6 := HE.out
    have hc0 : ¬ cap4 = 0 := by omega
  all_goals go_wp2
  all_goals go_region_held_law (fun w' : World => w'.cell? ⟨w.heap.size + 1, 0, none⟩ = some (.int .i64 k) ∧ w'.cell? ⟨w.heap.size + 1, 1, none⟩ = some (.string (bs u))) (first | exact K1.out | exact K2.out | (trace_state; fail)) (fail)
  all_goals go_wp2
  all_goals exact bodyPost_ret (v := .tuple #[.agg #[.int .i64 k, .string (bs u), (.slice (some ⟨g4, 0, none⟩) (xs.length + 1) cap4)], .bool true]) (resDkB (b := .bool true) rfl _ rfl rfl F.out) rfl P.out

set_option maxRecDepth 8000 in
set_option maxHeartbeats 1000000 in
theorem lay_ck (k : Int) (s u : List UInt8) (xs : List Ld) (a : Option Addr) (cap : Nat) (w : World) (h : LdsAt w a xs) (h0 : a = none → cap = 0) (hl : xs.length ≤ 8) (hq : ((bs u).toList == (bs s).toList) = false) (hk : ldB (k, u) = true) (hge : xs.length ≤ 6) :
    Calls Tryz.prog 102 #[.agg #[.int .i64 k, .string (bs s), .slice a xs.length cap], .agg #[.int .i64 k, .string (bs u)]] w (DoPost (((k, u), xs ++ [(k, s)]), true) w) := by
  have hb := layB_new w k s a xs.length cap k u
  have g3 := made3 w (.cells #[.int .i64 k, .string (bs s), .slice a xs.length cap] 32) (.cells #[.int .i64 k, .string (bs u)] 29) (.cells #[.int .i64 0, .string ⟨#[]⟩, .slice none 0 0] 32)
  have hz := size3 w (.cells #[.int .i64 k, .string (bs s), .slice a xs.length cap] 32) (.cells #[.int .i64 k, .string (bs u)] 29) (.cells #[.int .i64 0, .string ⟨#[]⟩, .slice none 0 0] 32)
  have cl := ilaid_any (k, u)
  rw [hk] at cl
  unfold ldV at cl
  obtain ⟨i0, hi, hz0, hz1, hz2⟩ := info_parts infoLd
  have cc := fun w1 (hg : World.grownBy _ w1 none) (w2 : World) (hg2 : w1.grownBy w2 none) => ldclone_in a cap xs w1 w2 ((h.grown g3).grown hg) h0 (by omega) hg2
  have HB := Lib.hid hb
  have G3 := Lib.hid g3
  have HZ := Lib.hid hz
  have HE := Lib.hid hge
  clear h hb g3 h0 hz hk hge
  go_enter Tryz.func102, Tryz.ntmps102
  go_wp2_with (first | (go_at_call 78; refine (cl _).mono ?_; rintro e w1 ⟨rfl, hg⟩; obtain ⟨⟨d0, d1, d2⟩, ⟨e0, e1⟩, ⟨r0, r1, r2⟩, f0, f1, f2⟩ := (HB.out.grown hg).facts))
  have hb3 : w.heap.size + 3 ≤ w1.heap.size := by have := hg.size; have := HZ.out; omega
  have mkS : ∀ w' : World, w1.grownBy w' none → (w'.cell? ⟨w.heap.size, 0, none⟩ = some (.int .i64 k) ∧ w'.cell? ⟨w.heap.size, 1, none⟩ = some (.string (bs s)) ∧ w'.cell? ⟨w.heap.size, 2, none⟩ = some (.slice a xs.length cap) ∧ w1.grownBy w' none) := fun w' hg' => ⟨((HB.out.grown hg).grown hg').facts.1.1, ((HB.out.grown hg).grown hg').facts.1.2.1, ((HB.out.grown hg).grown hg').facts.1.2.2, hg'⟩
  have MS := Lib.hid mkS
  have CC : ∀ w2 : World, w1.grownBy w2 none → Calls Tryz.prog 97 #[.slice a xs.length cap] w2 fun e w' => ∃ a' cap', e = .returned (.slice a' xs.length cap') ∧ Own2 w' w1.heap.size a' cap' xs ∧ w2.grownBy w' none := cc w1 hg
  clear mkS cc
  go_region_held_law (fun w' : World => w'.cell? ⟨w.heap.size, 0, none⟩ = some (.int .i64 k) ∧ w'.cell? ⟨w.heap.size, 1, none⟩ = some (.string (bs s)) ∧ w'.cell? ⟨w.heap.size, 2, none⟩ = some (.slice a xs.length cap) ∧ w1.grownBy w' none) (first | exact MS.out _ (by assumption) | exact MS.out _ (grownBy_drew (grownBy_refl _ _)) | exact MS.out _ (grownBy_trans (held_last (by assumption)) (by assumption)) | exact MS.out _ (grownBy_trans (held_last (by assumption)) (World.grownBy_alloc _ _ none)) | (trace_state; fail)) (first | (go_at_call 97; refine (CC _ (held_last (by assumption))).mono ?_; rintro e w2 ⟨a1, cap1, rfl, ho, hg2⟩) | (refine step_append_ld (by rfl) _ _ _ (by rfl) w1 Tryz.underlying30 hi hz0 hz1 hz2 _ _ xs (by rfl) (by first | exact ho | exact ho.kept (World.grownBy_alloc _ _ none)) _ (k, s) _ (by rfl) (by first | exact CellsAt.new _ _ _ | exact (CellsAt.new _ _ _).grown hg2 | exact (CellsAt.new _ _ _).grown (drew_grown hg2)) (by omega) (held_last (by assumption)) ?_; intro a4 cap4 w4 ho4 hg4))
  all_goals
    obtain ⟨g4, rfl⟩ := ho4.isAt (by simp)
    obtain ⟨hrm, hrM⟩ := ho4.room
    simp only [List.length_append, List.length_singleton] at hrm
    unfold maxLen at hrM
    have BB := Lib.hid ((HB.out.grown hg).grown hg4)
    obtain ⟨⟨d0, d1, d2⟩, ⟨e0, e1⟩, ⟨r0, r1, r2⟩, f0, f1, f2⟩ := BB.out.facts
    have P := Lib.hid (do_post (x := (k, u)) (b := true) (u := .int .i64 k) (v := .string (bs u)) (s := (.slice (some ⟨g4, 0, none⟩) (xs.length + 1) cap4)) (grownBy_trans (grownBy_trans G3.out hg) hg4) (ho4.l.mono (base' := w.heap.size + 3) hb3) (cap := cap4) (by simp) rfl rfl (by rw [(show (xs ++ [(k, s)]).length = xs.length + 1 by rw [List.length_append]; rfl)])).drew
    have F := Lib.hid (BB.out.2.2.put3 (.int .i64 k) (.string (bs u)) (.slice (some ⟨g4, 0, none⟩) (xs.length + 1) cap4))
    have K1 := Lib.hid (show w4.drew.cell? ⟨w.heap.size + 1, 0, none⟩ = some (.int .i64 k) ∧ w4.drew.cell? ⟨w.heap.size + 1, 1, none⟩ = some (.string (bs u)) from ⟨e0, e1⟩)
    have K2 := Lib.hid (show _ ∧ _ from ((BB.out.2.1.kept (put3_past w4 (w.heap.size + 1 + 1) (.int .i64 k) (.string (bs u)) (.slice (some ⟨g4, 0, none⟩) (xs.length + 1) cap4)) (by simp)).grown (grownBy_drew (grownBy_refl _ none))).pair2)
    clear CC MS ho4 hg4
    have he6 := HE.out
    have hc0 : ¬ cap4 = 0 := by omega
  all_goals go_wp2
  all_goals go_region_held_law (fun w' : World => w'.cell? ⟨w.heap.size + 1, 0, none⟩ = some (.int .i64 k) ∧ w'.cell? ⟨w.heap.size + 1, 1, none⟩ = some (.string (bs u))) (first | exact K1.out | exact K2.out | (trace_state; fail)) (fail)
  all_goals go_wp2
  all_goals exact bodyPost_ret (v := .tuple #[.agg #[.int .i64 k, .string (bs u), (.slice (some ⟨g4, 0, none⟩) (xs.length + 1) cap4)], .bool true]) (resDkB (b := .bool true) rfl _ rfl rfl F.out) rfl P.out

theorem lay_any (x y : Ld) (xs : List Ld) (a : Option Addr) (cap : Nat) (w : World) (h : LdsAt w a xs) (h0 : a = none → cap = 0) (hl : xs.length ≤ 8) :
    Calls Tryz.prog 102 #[dkV (x, xs) a cap, ldV y] w (DoPost (if ldB y = true ∧ y ≠ x then ((y, capP (xs ++ [x])), true) else ((x, xs), false)) w) := by
  obtain ⟨m, s⟩ := x
  obtain ⟨k, u⟩ := y
  by_cases he : (k, u) = (m, s)
  · rw [if_neg (fun q => q.2 he)]
    cases he
    exact lay_same m s xs a cap w h h0 hl
  have hot := other_of he
  cases hk : ldB (k, u)
  · rw [if_neg (fun q => by simp at q)]
    refine lay_no m k s u xs a cap w h h0 hl ?_ hk
    rcases hot with hq | ⟨_, hq⟩
    · exact .inl hq
    · exact .inr hq
  · rw [if_pos ⟨rfl, he⟩]
    clear he
    by_cases h8 : xs.length = 8
    · rw [capP_nine (by rw [List.length_append, List.length_singleton]; omega)]
      rcases hot with hq | ⟨rfl, hq⟩
      · exact lay_am m k s u xs a cap w h h0 hl hq hk h8
      · exact lay_ak _ s u xs a cap w h h0 hl hq hk h8
    · rw [capP_short (by rw [List.length_append, List.length_singleton]; omega)]
      by_cases h7 : xs.length = 7
      · rcases hot with hq | ⟨rfl, hq⟩
        · exact lay_bm m k s u xs a cap w h h0 hl hq hk h7
        · exact lay_bk _ s u xs a cap w h h0 hl hq hk h7
      · rcases hot with hq | ⟨rfl, hq⟩
        · exact lay_cm m k s u xs a cap w h h0 hl hq hk (by omega)
        · exact lay_ck _ s u xs a cap w h h0 hl hq hk (by omega)

end Go.Proofs.YtlnffpofbfigaaaGreatDoor
