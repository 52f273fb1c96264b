/-
  Joined out of the texts DDo2, DSame: what each holds is told at its head.
-/
import Derived.Test.YtlnffpofbfigaaaGreatDoorM7bea880a
import Derived.Deep.AppendLies

/-
  What a deed makes of a desk: the model's DeskDo where chain or formula become others.
-/
namespace Go.Proofs.YtlnffpofbfigaaaGreatDoor
open Go.RowKit

/-- Stores into the block of a desk that is being made leave the row and the first three blocks. -/
def DkB (W : World) (b : Nat) : Prop := ∃ vs, CellsAt W b vs 32
def setsO (W : World) (b : Nat) : List (Nat × Value) → World
  | [] => W
  | p :: l => setsO (W.setCell ⟨b, p.1, none⟩ p.2) b l
theorem OwnL.beside {w w' : World} {base b : Nat} {a : Option Addr} {xs : List Ld} (h : OwnL w base a xs) (hB : DkB w b) (hg : w.grownBy w' (.some b)) : OwnL w' base a xs := by
  refine ⟨h.1, ?_⟩
  obtain ⟨vs, hv⟩ := hB
  rcases h.2 with h | ⟨g, off, cur, ha, hbg, hh, hc⟩
  · exact .inl h
  · refine .inr ⟨g, off, cur, ha, hbg, (hg.block g (Array.getElem?_eq_some_iff.1 hh).1 fun e => ?_).trans hh, hc⟩
    cases e
    unfold CellsAt at hv
    rw [hh] at hv
    simp at hv
theorem Own2.beside {w w' : World} {base b : Nat} {a : Option Addr} {cap : Nat} {xs : List Ld} (h : Own2 w base a cap xs) (hB : DkB w b) (hg : w.grownBy w' (.some b)) : Own2 w' base a cap xs := by
  obtain ⟨vs, hv⟩ := hB
  refine World.ownsRow.kept h hg (.inr fun e => ?_)
  rcases h.2 with ⟨h0, _⟩ | ⟨g, c, cur, he, hb, hgg, _⟩
  · rw [h0] at e; cases e
  · rw [he] at e
    cases e
    unfold CellsAt at hv
    rw [hgg] at hv
    simp at hv
theorem Own2.sets {base b : Nat} {a : Option Addr} {cap : Nat} {xs : List Ld} : ∀ (l : List (Nat × Value)) (W : World), Own2 W base a cap xs → DkB W b → Own2 (setsO W b l) base a cap xs
  | [], _, o, _ => o
  | p :: l, W, o, ⟨vs, hv⟩ => Own2.sets l _ (o.beside ⟨vs, hv⟩ (grownBy_set W b p.1 p.2)) ⟨_, hv.set p.1 p.2⟩
theorem Own2.sets3 {W : World} {base b : Nat} {a : Option Addr} {cap : Nat} {xs : List Ld} (o : Own2 W base a cap xs) (hB : DkB W b) (p q r : Value) : Own2 (((W.setCell ⟨b, 2, none⟩ p).setCell ⟨b, 0, none⟩ q).setCell ⟨b, 1, none⟩ r) base a cap xs := by
  have := Own2.sets [(2, p), (0, q), (1, r)] W o hB
  simp only [setsO] at this
  exact this
theorem sets_keep {h b : Nat} {d : Dk} {a a2 : Option Addr} {cap base : Nat} {dk dn : Int} {dt : ByteArray} {xs : List Ld} {w0 : World} (hb : h + 2 < b) (h0 : w0.heap.size ≤ b) :
    ∀ (l : List (Nat × Value)) (W : World), Box3 W h d a cap dk dn dt → OwnL W base a2 xs → DkB W b → w0.grownBy W none →
      Box3 (setsO W b l) h d a cap dk dn dt ∧ OwnL (setsO W b l) base a2 xs ∧ w0.grownBy (setsO W b l) none
  | [], W, k, o, _, g => ⟨k, o, g⟩
  | p :: l, W, k, o, hB, g => by
    have hs := grownBy_set W b p.1 p.2
    obtain ⟨vs, hv⟩ := hB
    exact sets_keep hb h0 l _ (k.kept hs hb) (o.beside ⟨vs, hv⟩ hs) ⟨_, hv.set p.1 p.2⟩ (grownBy_put g h0 p.1 p.2)

theorem sets3 {h b : Nat} {d : Dk} {a a2 : Option Addr} {cap base : Nat} {dk dn : Int} {dt : ByteArray} {xs : List Ld} {w0 W : World} (hb : h + 2 < b) (h0 : w0.heap.size ≤ b) (k : Box3 W h d a cap dk dn dt) (o : OwnL W base a2 xs) (hB : DkB W b) (g : w0.grownBy W none) (p q r : Value) : CellsAt (((W.setCell ⟨b, 2, none⟩ p).setCell ⟨b, 0, none⟩ q).setCell ⟨b, 1, none⟩ r) (h + 1 + 1) #[.int .i64 0, .string ⟨#[]⟩, .slice none 0 0] 32 ∧ OwnL (((W.setCell ⟨b, 2, none⟩ p).setCell ⟨b, 0, none⟩ q).setCell ⟨b, 1, none⟩ r) base a2 xs ∧ w0.grownBy (((W.setCell ⟨b, 2, none⟩ p).setCell ⟨b, 0, none⟩ q).setCell ⟨b, 1, none⟩ r) none := by
  have := sets_keep hb h0 [(2, p), (0, q), (1, r)] W k o hB g
  simp only [setsO] at this
  exact ⟨this.1.2.2, this.2⟩
theorem sets4 {h b : Nat} {d : Dk} {a a2 : Option Addr} {cap base : Nat} {dk dn : Int} {dt : ByteArray} {xs : List Ld} {w0 W : World} (hb : h + 2 < b) (h0 : w0.heap.size ≤ b) (k : Box3 W h d a cap dk dn dt) (o : OwnL W base a2 xs) (hB : DkB W b) (g : w0.grownBy W none) (p q r t : Value) : CellsAt ((((W.setCell ⟨b, 2, none⟩ p).setCell ⟨b, 2, none⟩ q).setCell ⟨b, 0, none⟩ r).setCell ⟨b, 1, none⟩ t) (h + 1 + 1) #[.int .i64 0, .string ⟨#[]⟩, .slice none 0 0] 32 ∧ OwnL ((((W.setCell ⟨b, 2, none⟩ p).setCell ⟨b, 2, none⟩ q).setCell ⟨b, 0, none⟩ r).setCell ⟨b, 1, none⟩ t) base a2 xs ∧ w0.grownBy ((((W.setCell ⟨b, 2, none⟩ p).setCell ⟨b, 2, none⟩ q).setCell ⟨b, 0, none⟩ r).setCell ⟨b, 1, none⟩ t) none := by
  have := sets_keep hb h0 [(2, p), (2, q), (0, r), (1, t)] W k o hB g
  simp only [setsO] at this
  exact ⟨this.1.2.2, this.2⟩

/-- What the append leaves: the row with the pair behind it, and all other blocks. -/
theorem new_facts {w w1 w2 w3 w4 : World} {X Y Z : Obj} {d : Dk} {a a' : Option Addr} {cap cap' : Nat} {dk dn : Int} {dt : ByteArray} {u v : Value} {vs : Array Value}
    (B2 : Box3 w2 w.heap.size d a cap dk dn dt) (ho : Own2 w2 w1.heap.size a' cap' d.2) (hsz : w.heap.size + 3 ≤ w1.heap.size) (hX : X = .cells vs 32) (hY : Y = .cells #[u, v] 29)
    (hg3 : (w2.alloc X).grownBy w3 none) (hg4 : ((w3.alloc Y).alloc Z).grownBy w4 (Value.slice a' d.2.length cap').ownBlock) (hw : w.grownBy w2 none) :
    Behind w4 w.heap.size d a cap dk dn dt ∧ Box3 w4 w.heap.size d a cap dk dn dt ∧ CellsAt w4 w2.heap.size vs 32 ∧ CellsAt w4 w3.heap.size #[u, v] 29 ∧ w.grownBy w4 none := by
  subst hX hY
  have hlt := World.ownsRow.lt ho
  have gz := grownBy_trans (World.grownBy_alloc w3 (.cells #[u, v] 29) none) (World.grownBy_alloc _ Z none)
  have ga := grownBy_trans (World.grownBy_alloc w2 (.cells vs 32) none) hg3
  have s2 : w2.heap.size + 1 ≤ w3.heap.size := by have := hg3.size; simp only [World.alloc, Array.size_push] at this; exact this
  have hO := ((CellsAt.new w2 vs 32).grown hg3).grown gz
  have hM := (CellsAt.new w3 #[u, v] 29).grown (World.grownBy_alloc _ Z none)
  have hB := (B2.grown ga).grown gz
  have k : ∀ {b : Nat} {cs : Array Value} {T : TypeId}, CellsAt ((w3.alloc (.cells #[u, v] 29)).alloc Z) b cs T → (b < w1.heap.size ∨ w2.heap.size ≤ b) → CellsAt w4 b cs T := by
    intro b cs T hc hb
    refine hc.kept hg4 fun e => ?_
    have := hlt b e.symm
    omega
  have hB4 : Box3 w4 w.heap.size d a cap dk dn dt := ⟨k hB.1 (.inl (by omega)), k hB.2.1 (.inl (by omega)), k hB.2.2 (.inl (by omega))⟩
  refine ⟨behind3 hB4, hB4, k hO (.inr (Nat.le_refl _)), k hM (.inr (by omega)), ?_⟩
  have gw := grownBy_trans (grownBy_trans hw ga) gz
  exact ⟨hg4.os.trans gw.os, hg4.tape.trans gw.tape, hg4.output.trans gw.output, Nat.le_trans gw.size hg4.size, fun i hi _ => by
    refine (hg4.block i (Nat.lt_of_lt_of_le hi gw.size) fun e => ?_).trans (gw.block i hi (by simp))
    have := hlt i e.symm
    omega⟩
/-- The pair that was made is another one, as the walk asks it. -/
theorem other_of {x y : Ld} (h : y ≠ x) : (y.1 == x.1) = false ∨ (y.1 = x.1 ∧ ((bs y.2).toList == (bs x.2).toList) = false) := by
  by_cases e : y.1 = x.1
  · right
    refine ⟨e, beq_false_of_ne fun k => h ?_⟩
    rw [ByteArray.toList_eq, ByteArray.toList_eq] at k
    exact Prod.ext e k
  · exact .inl (beq_false_of_ne e)

theorem news_one (W : World) (Y : Obj) (x : Ld) : ∀ j u, (ldC [x])[j]? = some u → ((W.alloc Y).alloc (.cells #[.int .i64 x.1, .string (bs x.2)] 29)).cell? ((⟨W.heap.size + 1, 0, none⟩ : Addr).add j) = some u :=
  World.news_of_block (CellsAt.second W Y #[.int .i64 x.1, .string (bs x.2)] 29)
theorem sizes2 (w : World) (A B : Obj) {k : Nat} (h : k ≤ w.heap.size) : k ≤ ((w.alloc A).alloc B).heap.size := by show _ ≤ ((w.heap.push _).push _).size; rw [Array.size_push, Array.size_push]; omega

theorem own2_more {w : World} {base : Nat} {v : Value} {xs : List Ld} {x : Ld} (h : w.ownsRow base 29 2 v (xs.length + 1) (ldC xs ++ ldC [x])) : ∃ a cap, v = .slice a (xs.length + 1) cap ∧ Own2 w base a cap (xs ++ [x]) := by
  rw [← ldC_app] at h
  obtain ⟨a, cap, rfl, hn, ho⟩ := own2_shape (zs := xs ++ [x]) h
  refine ⟨a, cap, ?_, ho⟩
  rw [hn]
theorem CellsAt.pair2 {W : World} {b : Nat} {u v : Value} {T : TypeId} (h : CellsAt W b #[u, v] T) : W.cell? ⟨b, 0, none⟩ = some u ∧ W.cell? ⟨b, 1, none⟩ = some v := ⟨h.cell rfl, h.cell rfl⟩

set_option maxRecDepth 8000 in
set_option maxHeartbeats 1000000 in
theorem sdo_newA (m k : Int) (s u : List UInt8) (xs : List Ld) (dk dn : Int) (dt : ByteArray) (a : Option Addr) (cap : Nat) (w : World) (h : LdsAt w a xs) (h0 : a = none → cap = 0) (hd : dkB ((m, s), xs) = true) (hn : (dk == 6) = false) (hq : (k == m) = false) (hge : 8 ≤ xs.length)
    (cm : ∀ w, Calls Tryz.prog 109 #[.agg #[.int .i64 m, .string (bs s)], .agg #[.int .i64 dk, .int .i64 dn, .string dt]] w fun e w' => e = .returned (.tuple #[.agg #[.int .i64 k, .string (bs u)], .bool true]) ∧ w.grownBy w' none) :
    Calls Tryz.prog 61 #[.agg #[.int .i64 m, .string (bs s), .slice a xs.length cap], .agg #[.int .i64 dk, .int .i64 dn, .string dt]] w (SPost (((k, u), (xs ++ [(m, s)]).tail), true) w) := by
  have hl := (dkB_of hd).2.2
  change xs.length ≤ 8 at hl
  have hb := box3_new w ((m, s), xs) a cap dk dn dt
  have g3 := made3 w (.cells #[.int .i64 m, .string (bs s), .slice a xs.length cap] 32) (.cells #[.int .i64 dk, .int .i64 dn, .string dt] 40) (.cells zeroDk 32)
  have hz := size3 w (.cells #[.int .i64 m, .string (bs s), .slice a xs.length cap] 32) (.cells #[.int .i64 dk, .int .i64 dn, .string dt] 40) (.cells zeroDk 32)
  have cc := sdesk_is ((m, s), xs) a cap _ (h.grown g3)
  rw [hd] at cc
  have cs := fun w1 (hg : World.grownBy _ w1 none) => scopy_any ((m, s), xs) a cap w1 ((h.grown g3).grown hg) h0 (by show xs.length ≤ 9; omega)
  have HB := Lib.hid hb
  have G3 := Lib.hid g3
  have HZ := Lib.hid hz
  obtain ⟨i0, hi, hz0, hz1, hz2⟩ := info_parts infoLd
  clear h hb g3 h0 hd hz
  unfold dkV at *
  go_enter Tryz.func61, Tryz.ntmps61
  go_wp2_with (first | (go_at_call 13; refine cc.mono ?_; rintro e w1 ⟨rfl, hg⟩; obtain ⟨⟨d0, d1, d2⟩, ⟨e0, e1, e2⟩, ⟨r0, r1, r2⟩, f0, f1, f2⟩ := (HB.out.grown hg).facts) | (go_at_call 60; refine (cs _ hg).mono ?_; rintro e w2 ⟨a', cap', rfl, ho, hg2⟩; obtain ⟨⟨⟨d0, d1, d2⟩, ⟨e0, e1, e2⟩, ⟨r0, r1, r2⟩, f0, f1, f2⟩, l0, l1, l2⟩ := behind3 ((HB.out.grown hg).grown hg2)) | (go_at_call 109; refine (cm _).mono ?_; rintro e w3 ⟨rfl, hg3⟩; obtain ⟨⟨⟨d0, d1, d2⟩, ⟨e0, e1, e2⟩, ⟨r0, r1, r2⟩, f0, f1, f2⟩, l0, l1, l2⟩ := behind4 ((HB.out.grown hg).grown hg2) hg3; obtain ⟨o0, o1, o2⟩ := ((CellsAt.new w2 _ _).grown hg3).three; have ol := ((CellsAt.new w2 _ _).grown hg3).lt; have ho3 := Lib.hid (((ho.kept (World.grownBy_alloc _ _ none)).kept hg3).kept (World.grownBy_alloc _ (.cells #[.int .i64 k, .string (bs u)] 29) none))) | (at_builtin; refine wpList_append_own _ rfl _ _ 30 rfl w1.heap.size 29 i0 (.agg #[.int .i64 0, .string ⟨#[]⟩]) 2 24 Tryz.underlying30 hi hz0 hz1 hz2 rfl (by decide) _ _ _ rfl (ho3.out.kept (World.grownBy_alloc _ (.cells #[.int .i64 m, .string (bs s)] 29) none)) ⟨w3.heap.size + 1, 0, none⟩ 1 1 (ldC [(m, s)]) rfl rfl (news_one _ _ (m, s)) (ldC_one [(m, s)]) (by unfold maxLen; omega) (by omega) (sizes2 _ _ _ (Nat.le_trans hg2.size (Nat.le_trans (Nat.le_of_lt ol) (Nat.le_refl _)))) ?_; intro v' w4 hown' hgrow _; obtain ⟨B4, KB, KO, KM, KG⟩ := new_facts (d := ((m, s), xs)) ((HB.out.grown hg).grown hg2) ho (by have := hg.size; have := HZ.out; omega) rfl rfl hg3 hgrow (grownBy_trans (grownBy_trans G3.out hg) hg2); obtain ⟨a4, cap4, rfl, ho4⟩ := own2_more hown'; obtain ⟨g4, rfl⟩ := ho4.isAt (by simp); obtain ⟨⟨⟨d0, d1, d2⟩, ⟨e0, e1, e2⟩, ⟨r0, r1, r2⟩, f0, f1, f2⟩, l0, l1, l2⟩ := B4; obtain ⟨o0, o1, o2⟩ := KO.three; obtain ⟨m0, m1⟩ := KM.pair2; have fo0 := KO.frozen 0; have fo1 := KO.frozen 1; have fo2 := KO.frozen 2; obtain ⟨hrm, hrM⟩ := ho4.room; simp only [List.length_append, List.length_singleton] at hrm; unfold maxLen at hrM; have HB4 := Lib.hid KB; have HO4 := Lib.hid KO; have HG4 := Lib.hid KG; have HW4 := Lib.hid ho4; clear KB KO KM KG ho4 hown' hgrow ho3))
  have hb2 : w.heap.size + 2 < w2.heap.size := by have := hg.size; have := hg2.size; have := HZ.out; omega
  have KS := sets4 (h := w.heap.size) (b := w2.heap.size) hb2 (by omega) HB4.out ((show OwnL w4 _ _ (xs ++ [(m, s)]).tail by have := HW4.out.tail; rwa [List.drop_one] at this).mono (base' := w.heap.size + 3) (by have := hg.size; have := HZ.out; omega)) ⟨_, HO4.out⟩ HG4.out (.slice (some ⟨g4, 0, none⟩) (xs.length + 1) cap4) (.slice (some ⟨g4, 2, none⟩) xs.length (cap4 - 1)) (.int .i64 k) (.string (bs u))
  have hlen : (xs ++ [(m, s)]).tail.length = xs.length := by simp
  have F := KS.1.put3 (.int .i64 k) (.string (bs u)) (.slice (some ⟨g4, 2, none⟩) xs.length (cap4 - 1))
  have P := s_post (x := (k, u)) (b := true) (s := (.slice (some ⟨g4, 2, none⟩) xs.length (cap4 - 1))) KS.2.2 KS.2.1 (by simp) rfl rfl (by rw [hlen]) (fun q => absurd q (by rw [hlen]; omega))
  exact bodyPost_ret (v := .tuple #[.agg #[.int .i64 k, .string (bs u), (.slice (some ⟨g4, 2, none⟩) xs.length (cap4 - 1))], .bool true]) (resDkB (b := .bool true) rfl _ rfl rfl F) rfl P

set_option maxRecDepth 8000 in
set_option maxHeartbeats 1000000 in
theorem sdo_newB (k : Int) (s u : List UInt8) (xs : List Ld) (dk dn : Int) (dt : ByteArray) (a : Option Addr) (cap : Nat) (w : World) (h : LdsAt w a xs) (h0 : a = none → cap = 0) (hd : dkB ((k, s), xs) = true) (hn : (dk == 6) = false) (hq : ((bs u).toList == (bs s).toList) = false) (hge : 8 ≤ xs.length)
    (cm : ∀ w, Calls Tryz.prog 109 #[.agg #[.int .i64 k, .string (bs s)], .agg #[.int .i64 dk, .int .i64 dn, .string dt]] w fun e w' => e = .returned (.tuple #[.agg #[.int .i64 k, .string (bs u)], .bool true]) ∧ w.grownBy w' none) :
    Calls Tryz.prog 61 #[.agg #[.int .i64 k, .string (bs s), .slice a xs.length cap], .agg #[.int .i64 dk, .int .i64 dn, .string dt]] w (SPost (((k, u), (xs ++ [(k, s)]).tail), true) w) := by
  have hl := (dkB_of hd).2.2
  change xs.length ≤ 8 at hl
  have hb := box3_new w ((k, s), xs) a cap dk dn dt
  have g3 := made3 w (.cells #[.int .i64 k, .string (bs s), .slice a xs.length cap] 32) (.cells #[.int .i64 dk, .int .i64 dn, .string dt] 40) (.cells zeroDk 32)
  have hz := size3 w (.cells #[.int .i64 k, .string (bs s), .slice a xs.length cap] 32) (.cells #[.int .i64 dk, .int .i64 dn, .string dt] 40) (.cells zeroDk 32)
  have cc := sdesk_is ((k, s), xs) a cap _ (h.grown g3)
  rw [hd] at cc
  have cs := fun w1 (hg : World.grownBy _ w1 none) => scopy_any ((k, s), xs) a cap w1 ((h.grown g3).grown hg) h0 (by show xs.length ≤ 9; omega)
  have HB := Lib.hid hb
  have G3 := Lib.hid g3
  have HZ := Lib.hid hz
  obtain ⟨i0, hi, hz0, hz1, hz2⟩ := info_parts infoLd
  clear h hb g3 h0 hd hz
  unfold dkV at *
  go_enter Tryz.func61, Tryz.ntmps61
  go_wp2_with (first | (go_at_call 13; refine cc.mono ?_; rintro e w1 ⟨rfl, hg⟩; obtain ⟨⟨d0, d1, d2⟩, ⟨e0, e1, e2⟩, ⟨r0, r1, r2⟩, f0, f1, f2⟩ := (HB.out.grown hg).facts) | (go_at_call 60; refine (cs _ hg).mono ?_; rintro e w2 ⟨a', cap', rfl, ho, hg2⟩; obtain ⟨⟨⟨d0, d1, d2⟩, ⟨e0, e1, e2⟩, ⟨r0, r1, r2⟩, f0, f1, f2⟩, l0, l1, l2⟩ := behind3 ((HB.out.grown hg).grown hg2)) | (go_at_call 109; refine (cm _).mono ?_; rintro e w3 ⟨rfl, hg3⟩; obtain ⟨⟨⟨d0, d1, d2⟩, ⟨e0, e1, e2⟩, ⟨r0, r1, r2⟩, f0, f1, f2⟩, l0, l1, l2⟩ := behind4 ((HB.out.grown hg).grown hg2) hg3; obtain ⟨o0, o1, o2⟩ := ((CellsAt.new w2 _ _).grown hg3).three; have ol := ((CellsAt.new w2 _ _).grown hg3).lt; have ho3 := Lib.hid (((ho.kept (World.grownBy_alloc _ _ none)).kept hg3).kept (World.grownBy_alloc _ (.cells #[.int .i64 k, .string (bs u)] 29) none))) | (at_builtin; refine wpList_append_own _ rfl _ _ 30 rfl w1.heap.size 29 i0 (.agg #[.int .i64 0, .string ⟨#[]⟩]) 2 24 Tryz.underlying30 hi hz0 hz1 hz2 rfl (by decide) _ _ _ rfl (ho3.out.kept (World.grownBy_alloc _ (.cells #[.int .i64 k, .string (bs s)] 29) none)) ⟨w3.heap.size + 1, 0, none⟩ 1 1 (ldC [(k, s)]) rfl rfl (news_one _ _ (k, s)) (ldC_one [(k, s)]) (by unfold maxLen; omega) (by omega) (sizes2 _ _ _ (Nat.le_trans hg2.size (Nat.le_trans (Nat.le_of_lt ol) (Nat.le_refl _)))) ?_; intro v' w4 hown' hgrow _; obtain ⟨B4, KB, KO, KM, KG⟩ := new_facts (d := ((k, s), xs)) ((HB.out.grown hg).grown hg2) ho (by have := hg.size; have := HZ.out; omega) rfl rfl hg3 hgrow (grownBy_trans (grownBy_trans G3.out hg) hg2); obtain ⟨a4, cap4, rfl, ho4⟩ := own2_more hown'; obtain ⟨g4, rfl⟩ := ho4.isAt (by simp); obtain ⟨⟨⟨d0, d1, d2⟩, ⟨e0, e1, e2⟩, ⟨r0, r1, r2⟩, f0, f1, f2⟩, l0, l1, l2⟩ := B4; obtain ⟨o0, o1, o2⟩ := KO.three; obtain ⟨m0, m1⟩ := KM.pair2; have fo0 := KO.frozen 0; have fo1 := KO.frozen 1; have fo2 := KO.frozen 2; obtain ⟨hrm, hrM⟩ := ho4.room; simp only [List.length_append, List.length_singleton] at hrm; unfold maxLen at hrM; have HB4 := Lib.hid KB; have HO4 := Lib.hid KO; have HG4 := Lib.hid KG; have HW4 := Lib.hid ho4; clear KB KO KM KG ho4 hown' hgrow ho3))
  have hb2 : w.heap.size + 2 < w2.heap.size := by have := hg.size; have := hg2.size; have := HZ.out; omega
  have KS := sets4 (h := w.heap.size) (b := w2.heap.size) hb2 (by omega) HB4.out ((show OwnL w4 _ _ (xs ++ [(k, s)]).tail by have := HW4.out.tail; rwa [List.drop_one] at this).mono (base' := w.heap.size + 3) (by have := hg.size; have := HZ.out; omega)) ⟨_, HO4.out⟩ HG4.out (.slice (some ⟨g4, 0, none⟩) (xs.length + 1) cap4) (.slice (some ⟨g4, 2, none⟩) xs.length (cap4 - 1)) (.int .i64 k) (.string (bs u))
  have hlen : (xs ++ [(k, s)]).tail.length = xs.length := by simp
  have F := KS.1.put3 (.int .i64 k) (.string (bs u)) (.slice (some ⟨g4, 2, none⟩) xs.length (cap4 - 1))
  have P := s_post (x := (k, u)) (b := true) (s := (.slice (some ⟨g4, 2, none⟩) xs.length (cap4 - 1))) KS.2.2 KS.2.1 (by simp) rfl rfl (by rw [hlen]) (fun q => absurd q (by rw [hlen]; omega))
  exact bodyPost_ret (v := .tuple #[.agg #[.int .i64 k, .string (bs u), (.slice (some ⟨g4, 2, none⟩) xs.length (cap4 - 1))], .bool true]) (resDkB (b := .bool true) rfl _ rfl rfl F) rfl P

set_option maxRecDepth 8000 in
set_option maxHeartbeats 1000000 in
theorem sdo_newC (m k : Int) (s u : List UInt8) (xs : List Ld) (dk dn : Int) (dt : ByteArray) (a : Option Addr) (cap : Nat) (w : World) (h : LdsAt w a xs) (h0 : a = none → cap = 0) (hd : dkB ((m, s), xs) = true) (hn : (dk == 6) = false) (hq : (k == m) = false) (hlt : xs.length ≤ 7)
    (cm : ∀ w, Calls Tryz.prog 109 #[.agg #[.int .i64 m, .string (bs s)], .agg #[.int .i64 dk, .int .i64 dn, .string dt]] w fun e w' => e = .returned (.tuple #[.agg #[.int .i64 k, .string (bs u)], .bool true]) ∧ w.grownBy w' none) :
    Calls Tryz.prog 61 #[.agg #[.int .i64 m, .string (bs s), .slice a xs.length cap], .agg #[.int .i64 dk, .int .i64 dn, .string dt]] w (SPost (((k, u), xs ++ [(m, s)]), true) w) := by
  have hl := (dkB_of hd).2.2
  change xs.length ≤ 8 at hl
  have hb := box3_new w ((m, s), xs) a cap dk dn dt
  have g3 := made3 w (.cells #[.int .i64 m, .string (bs s), .slice a xs.length cap] 32) (.cells #[.int .i64 dk, .int .i64 dn, .string dt] 40) (.cells zeroDk 32)
  have hz := size3 w (.cells #[.int .i64 m, .string (bs s), .slice a xs.length cap] 32) (.cells #[.int .i64 dk, .int .i64 dn, .string dt] 40) (.cells zeroDk 32)
  have cc := sdesk_is ((m, s), xs) a cap _ (h.grown g3)
  rw [hd] at cc
  have cs := fun w1 (hg : World.grownBy _ w1 none) => scopy_any ((m, s), xs) a cap w1 ((h.grown g3).grown hg) h0 (by show xs.length ≤ 9; omega)
  have HB := Lib.hid hb
  have G3 := Lib.hid g3
  have HZ := Lib.hid hz
  obtain ⟨i0, hi, hz0, hz1, hz2⟩ := info_parts infoLd
  clear h hb g3 h0 hd hz
  unfold dkV at *
  go_enter Tryz.func61, Tryz.ntmps61
  go_wp2_with (first | (go_at_call 13; refine cc.mono ?_; rintro e w1 ⟨rfl, hg⟩; obtain ⟨⟨d0, d1, d2⟩, ⟨e0, e1, e2⟩, ⟨r0, r1, r2⟩, f0, f1, f2⟩ := (HB.out.grown hg).facts) | (go_at_call 60; refine (cs _ hg).mono ?_; rintro e w2 ⟨a', cap', rfl, ho, hg2⟩; obtain ⟨⟨⟨d0, d1, d2⟩, ⟨e0, e1, e2⟩, ⟨r0, r1, r2⟩, f0, f1, f2⟩, l0, l1, l2⟩ := behind3 ((HB.out.grown hg).grown hg2)) | (go_at_call 109; refine (cm _).mono ?_; rintro e w3 ⟨rfl, hg3⟩; obtain ⟨⟨⟨d0, d1, d2⟩, ⟨e0, e1, e2⟩, ⟨r0, r1, r2⟩, f0, f1, f2⟩, l0, l1, l2⟩ := behind4 ((HB.out.grown hg).grown hg2) hg3; obtain ⟨o0, o1, o2⟩ := ((CellsAt.new w2 _ _).grown hg3).three; have ol := ((CellsAt.new w2 _ _).grown hg3).lt; have ho3 := Lib.hid (((ho.kept (World.grownBy_alloc _ _ none)).kept hg3).kept (World.grownBy_alloc _ (.cells #[.int .i64 k, .string (bs u)] 29) none))) | (at_builtin; refine wpList_append_own _ rfl _ _ 30 rfl w1.heap.size 29 i0 (.agg #[.int .i64 0, .string ⟨#[]⟩]) 2 24 Tryz.underlying30 hi hz0 hz1 hz2 rfl (by decide) _ _ _ rfl (ho3.out.kept (World.grownBy_alloc _ (.cells #[.int .i64 m, .string (bs s)] 29) none)) ⟨w3.heap.size + 1, 0, none⟩ 1 1 (ldC [(m, s)]) rfl rfl (news_one _ _ (m, s)) (ldC_one [(m, s)]) (by unfold maxLen; omega) (by omega) (sizes2 _ _ _ (Nat.le_trans hg2.size (Nat.le_trans (Nat.le_of_lt ol) (Nat.le_refl _)))) ?_; intro v' w4 hown' hgrow _; obtain ⟨B4, KB, KO, KM, KG⟩ := new_facts (d := ((m, s), xs)) ((HB.out.grown hg).grown hg2) ho (by have := hg.size; have := HZ.out; omega) rfl rfl hg3 hgrow (grownBy_trans (grownBy_trans G3.out hg) hg2); obtain ⟨a4, cap4, rfl, ho4⟩ := own2_more hown'; obtain ⟨g4, rfl⟩ := ho4.isAt (by simp); obtain ⟨⟨⟨d0, d1, d2⟩, ⟨e0, e1, e2⟩, ⟨r0, r1, r2⟩, f0, f1, f2⟩, l0, l1, l2⟩ := B4; obtain ⟨o0, o1, o2⟩ := KO.three; obtain ⟨m0, m1⟩ := KM.pair2; have fo0 := KO.frozen 0; have fo1 := KO.frozen 1; have fo2 := KO.frozen 2; obtain ⟨hrm, hrM⟩ := ho4.room; simp only [List.length_append, List.length_singleton] at hrm; unfold maxLen at hrM; have HB4 := Lib.hid KB; have HO4 := Lib.hid KO; have HG4 := Lib.hid KG; have HW4 := Lib.hid ho4; clear KB KO KM KG ho4 hown' hgrow ho3))
  have hb2 : w.heap.size + 2 < w2.heap.size := by have := hg.size; have := hg2.size; have := HZ.out; omega
  have KS := sets3 (h := w.heap.size) (b := w2.heap.size) hb2 (by omega) HB4.out (HW4.out.l.mono (base' := w.heap.size + 3) (by have := hg.size; have := HZ.out; omega)) ⟨_, HO4.out⟩ HG4.out (.slice (some ⟨g4, 0, none⟩) (xs.length + 1) cap4) (.int .i64 k) (.string (bs u))
  have hlen : (xs ++ [(m, s)]).length = xs.length + 1 := by simp
  have F := KS.1.put3 (.int .i64 k) (.string (bs u)) (.slice (some ⟨g4, 0, none⟩) (xs.length + 1) cap4)
  have P := s_post (x := (k, u)) (b := true) (s := (.slice (some ⟨g4, 0, none⟩) (xs.length + 1) cap4)) KS.2.2 KS.2.1 (by simp) rfl rfl (by rw [hlen]) (fun _ => (HW4.out.mono (base' := w.heap.size + 3) (by have := hg.size; have := HZ.out; omega)).sets3 ⟨_, HO4.out⟩ _ _ _)
  exact bodyPost_ret (v := .tuple #[.agg #[.int .i64 k, .string (bs u), (.slice (some ⟨g4, 0, none⟩) (xs.length + 1) cap4)], .bool true]) (resDkB (b := .bool true) rfl _ rfl rfl F) rfl P

set_option maxRecDepth 8000 in
set_option maxHeartbeats 1000000 in
theorem sdo_newD (k : Int) (s u : List UInt8) (xs : List Ld) (dk dn : Int) (dt : ByteArray) (a : Option Addr) (cap : Nat) (w : World) (h : LdsAt w a xs) (h0 : a = none → cap = 0) (hd : dkB ((k, s), xs) = true) (hn : (dk == 6) = false) (hq : ((bs u).toList == (bs s).toList) = false) (hlt : xs.length ≤ 7)
    (cm : ∀ w, Calls Tryz.prog 109 #[.agg #[.int .i64 k, .string (bs s)], .agg #[.int .i64 dk, .int .i64 dn, .string dt]] w fun e w' => e = .returned (.tuple #[.agg #[.int .i64 k, .string (bs u)], .bool true]) ∧ w.grownBy w' none) :
    Calls Tryz.prog 61 #[.agg #[.int .i64 k, .string (bs s), .slice a xs.length cap], .agg #[.int .i64 dk, .int .i64 dn, .string dt]] w (SPost (((k, u), xs ++ [(k, s)]), true) w) := by
  have hl := (dkB_of hd).2.2
  change xs.length ≤ 8 at hl
  have hb := box3_new w ((k, s), xs) a cap dk dn dt
  have g3 := made3 w (.cells #[.int .i64 k, .string (bs s), .slice a xs.length cap] 32) (.cells #[.int .i64 dk, .int .i64 dn, .string dt] 40) (.cells zeroDk 32)
  have hz := size3 w (.cells #[.int .i64 k, .string (bs s), .slice a xs.length cap] 32) (.cells #[.int .i64 dk, .int .i64 dn, .string dt] 40) (.cells zeroDk 32)
  have cc := sdesk_is ((k, s), xs) a cap _ (h.grown g3)
  rw [hd] at cc
  have cs := fun w1 (hg : World.grownBy _ w1 none) => scopy_any ((k, s), xs) a cap w1 ((h.grown g3).grown hg) h0 (by show xs.length ≤ 9; omega)
  have HB := Lib.hid hb
  have G3 := Lib.hid g3
  have HZ := Lib.hid hz
  obtain ⟨i0, hi, hz0, hz1, hz2⟩ := info_parts infoLd
  clear h hb g3 h0 hd hz
  unfold dkV at *
  go_enter Tryz.func61, Tryz.ntmps61
  go_wp2_with (first | (go_at_call 13; refine cc.mono ?_; rintro e w1 ⟨rfl, hg⟩; obtain ⟨⟨d0, d1, d2⟩, ⟨e0, e1, e2⟩, ⟨r0, r1, r2⟩, f0, f1, f2⟩ := (HB.out.grown hg).facts) | (go_at_call 60; refine (cs _ hg).mono ?_; rintro e w2 ⟨a', cap', rfl, ho, hg2⟩; obtain ⟨⟨⟨d0, d1, d2⟩, ⟨e0, e1, e2⟩, ⟨r0, r1, r2⟩, f0, f1, f2⟩, l0, l1, l2⟩ := behind3 ((HB.out.grown hg).grown hg2)) | (go_at_call 109; refine (cm _).mono ?_; rintro e w3 ⟨rfl, hg3⟩; obtain ⟨⟨⟨d0, d1, d2⟩, ⟨e0, e1, e2⟩, ⟨r0, r1, r2⟩, f0, f1, f2⟩, l0, l1, l2⟩ := behind4 ((HB.out.grown hg).grown hg2) hg3; obtain ⟨o0, o1, o2⟩ := ((CellsAt.new w2 _ _).grown hg3).three; have ol := ((CellsAt.new w2 _ _).grown hg3).lt; have ho3 := Lib.hid (((ho.kept (World.grownBy_alloc _ _ none)).kept hg3).kept (World.grownBy_alloc _ (.cells #[.int .i64 k, .string (bs u)] 29) none))) | (at_builtin; refine wpList_append_own _ rfl _ _ 30 rfl w1.heap.size 29 i0 (.agg #[.int .i64 0, .string ⟨#[]⟩]) 2 24 Tryz.underlying30 hi hz0 hz1 hz2 rfl (by decide) _ _ _ rfl (ho3.out.kept (World.grownBy_alloc _ (.cells #[.int .i64 k, .string (bs s)] 29) none)) ⟨w3.heap.size + 1, 0, none⟩ 1 1 (ldC [(k, s)]) rfl rfl (news_one _ _ (k, s)) (ldC_one [(k, s)]) (by unfold maxLen; omega) (by omega) (sizes2 _ _ _ (Nat.le_trans hg2.size (Nat.le_trans (Nat.le_of_lt ol) (Nat.le_refl _)))) ?_; intro v' w4 hown' hgrow _; obtain ⟨B4, KB, KO, KM, KG⟩ := new_facts (d := ((k, s), xs)) ((HB.out.grown hg).grown hg2) ho (by have := hg.size; have := HZ.out; omega) rfl rfl hg3 hgrow (grownBy_trans (grownBy_trans G3.out hg) hg2); obtain ⟨a4, cap4, rfl, ho4⟩ := own2_more hown'; obtain ⟨g4, rfl⟩ := ho4.isAt (by simp); obtain ⟨⟨⟨d0, d1, d2⟩, ⟨e0, e1, e2⟩, ⟨r0, r1, r2⟩, f0, f1, f2⟩, l0, l1, l2⟩ := B4; obtain ⟨o0, o1, o2⟩ := KO.three; obtain ⟨m0, m1⟩ := KM.pair2; have fo0 := KO.frozen 0; have fo1 := KO.frozen 1; have fo2 := KO.frozen 2; obtain ⟨hrm, hrM⟩ := ho4.room; simp only [List.length_append, List.length_singleton] at hrm; unfold maxLen at hrM; have HB4 := Lib.hid KB; have HO4 := Lib.hid KO; have HG4 := Lib.hid KG; have HW4 := Lib.hid ho4; clear KB KO KM KG ho4 hown' hgrow ho3))
  have hb2 : w.heap.size + 2 < w2.heap.size := by have := hg.size; have := hg2.size; have := HZ.out; omega
  have KS := sets3 (h := w.heap.size) (b := w2.heap.size) hb2 (by omega) HB4.out (HW4.out.l.mono (base' := w.heap.size + 3) (by have := hg.size; have := HZ.out; omega)) ⟨_, HO4.out⟩ HG4.out (.slice (some ⟨g4, 0, none⟩) (xs.length + 1) cap4) (.int .i64 k) (.string (bs u))
  have hlen : (xs ++ [(k, s)]).length = xs.length + 1 := by simp
  have F := KS.1.put3 (.int .i64 k) (.string (bs u)) (.slice (some ⟨g4, 0, none⟩) (xs.length + 1) cap4)
  have P := s_post (x := (k, u)) (b := true) (s := (.slice (some ⟨g4, 0, none⟩) (xs.length + 1) cap4)) KS.2.2 KS.2.1 (by simp) rfl rfl (by rw [hlen]) (fun _ => (HW4.out.mono (base' := w.heap.size + 3) (by have := hg.size; have := HZ.out; omega)).sets3 ⟨_, HO4.out⟩ _ _ _)
  exact bodyPost_ret (v := .tuple #[.agg #[.int .i64 k, .string (bs u), (.slice (some ⟨g4, 0, none⟩) (xs.length + 1) cap4)], .bool true]) (resDkB (b := .bool true) rfl _ rfl rfl F) rfl P

theorem sdo_new (x y : Ld) (xs : List Ld) (dk dn : Int) (dt : ByteArray) (a : Option Addr) (cap : Nat) (w : World) (h : LdsAt w a xs) (h0 : a = none → cap = 0) (hd : dkB (x, xs) = true) (hn : (dk == 6) = false) (hy : y ≠ x)
    (cm : ∀ w, Calls Tryz.prog 109 #[.agg #[.int .i64 x.1, .string (bs x.2)], .agg #[.int .i64 dk, .int .i64 dn, .string dt]] w fun e w' => e = .returned (.tuple #[.agg #[.int .i64 y.1, .string (bs y.2)], .bool true]) ∧ w.grownBy w' none) :
    Calls Tryz.prog 61 #[dkV (x, xs) a cap, .agg #[.int .i64 dk, .int .i64 dn, .string dt]] w (SPost ((y, capP (xs ++ [x])), true) w) := by
  have hl := (dkB_of hd).2.2
  change xs.length ≤ 8 at hl
  have hot := other_of hy
  clear hy
  obtain ⟨m, s⟩ := x
  obtain ⟨k, u⟩ := y
  unfold dkV
  by_cases hge : 8 ≤ xs.length
  · rw [capP_nine (by rw [List.length_append, List.length_singleton]; omega), List.drop_one]
    rcases hot with hq | ⟨rfl, hq⟩
    · exact sdo_newA m k s u xs dk dn dt a cap w h h0 hd hn hq hge cm
    · exact sdo_newB _ s u xs dk dn dt a cap w h h0 hd hn hq hge cm
  · rw [capP_short (by rw [List.length_append, List.length_singleton]; omega)]
    rcases hot with hq | ⟨rfl, hq⟩
    · exact sdo_newC m k s u xs dk dn dt a cap w h h0 hd hn hq (by omega) cm
    · exact sdo_newD _ s u xs dk dn dt a cap w h h0 hd hn hq (by omega) cm

/-- What a deed makes of any desk. -/
theorem noBack_of {D : Dd} {xs : List Ld} (h : D ≠ (6, 0, []) ∨ xs = []) : NoBack D.1 D.2.1 (bs D.2.2) xs := by
  obtain ⟨k, n, t⟩ := D
  unfold NoBack
  by_cases k6 : k = 6
  · by_cases n0 : n = 0
    · by_cases t0 : t = []
      · subst k6 n0 t0
        rcases h with h | h
        · exact absurd rfl h
        · exact .inr (.inr (.inr ⟨rfl, rfl, rfl, h⟩))
      · refine .inr (.inr (.inl ?_))
        show (bs t).toList.isEmpty = false
        rw [ByteArray.toList_eq]
        cases t with
        | nil => exact absurd rfl t0
        | cons c t => rfl
    · exact .inr (.inl (beq_false_of_ne n0))
  · exact .inl (beq_false_of_ne k6)
theorem raw_back {x : Ld} {n : Int} {t : List UInt8} : rawD x (6, n, t) = none := by simp [rawD]
theorem sdo_any (d : Dk) (D : Dd) (a : Option Addr) (cap : Nat) (w : World) (h : LdsAt w a d.2) (h0 : a = none → cap = 0) :
    Calls Tryz.prog 61 #[dkV d a cap, ddV D] w (SPost (doR d D) w) := by
  obtain ⟨x, xs⟩ := d
  cases hd : dkB (x, xs)
  · rw [doR_no hd]
    exact sdo_bad (x, xs) D.1 D.2.1 (bs D.2.2) a cap w h hd
  · have hx : x.2.length ≤ 60 := isF_len (ldB_of (dkB_of hd).2.1).2
    have cm := sdmade_any x D hx
    by_cases h6 : D = (6, 0, [])
    · subst h6
      cases hp : xs.getLast? with
      | some p =>
        rw [doR_some hd (doD_back (d := (x, xs)) hp)]
        obtain ⟨ys, rfl⟩ : ∃ ys, xs = ys ++ [p] := List.getLast?_eq_some_iff.1 hp
        show Calls _ _ _ _ (SPost ((p, (ys ++ [p]).dropLast), true) w)
        rw [List.dropLast_concat]
        exact sdo_back x p ys a cap w h h0 hd
      | none =>
        have hx0 : xs = [] := List.getLast?_eq_none_iff.1 hp
        rw [doR_none hd (doD_back0 (d := (x, xs)) hx0)]
        obtain ⟨b, hb⟩ := made_stay (x := x) (a := (6, 0, [])) (newD_raw raw_back)
        exact sdo_stay x xs 6 0 (bs []) b a cap w h h0 hd (noBack_of (D := (6, 0, [])) (.inr hx0)) fun w => (cm w).mono fun e w' hm => hb w e w' hm
    · cases hn : newD x D with
      | none =>
        rw [doR_none hd (doD_none (d := (x, xs)) h6 hn)]
        obtain ⟨b, hb⟩ := made_stay hn
        exact sdo_stay x xs D.1 D.2.1 (bs D.2.2) b a cap w h h0 hd (noBack_of (.inl h6)) fun w => (cm w).mono fun e w' hm => hb w e w' hm
      | some y =>
        rw [doR_some hd (doD_new (d := (x, xs)) h6 hn)]
        have hk : (D.1 == 6) = false := by
          refine beq_false_of_ne fun e => ?_
          obtain ⟨k, n, t⟩ := D
          change k = 6 at e
          subst e
          have := (newD_of hn).1
          rw [raw_back] at this
          cases this
        exact sdo_new x y xs D.1 D.2.1 (bs D.2.2) a cap w h h0 hd hk (newD_of hn).2.2 fun w => (cm w).mono fun e w' hm => made_new hn hm

theorem sdo_do (d : Dk) (D : Dd) (a : Option Addr) (cap : Nat) (w : World) (h : LdsAt w a d.2) (h0 : a = none → cap = 0) :
    Calls Tryz.prog 61 #[dkV d a cap, ddV D] w (DoPost (doR d D) w) := (sdo_any d D a cap w h h0).mono fun _ _ q => q.weak

end Go.Proofs.YtlnffpofbfigaaaGreatDoor

/-
  Two desks, the same or not: the laws' sameDesk and noDesk.
-/
namespace Go.Proofs.YtlnffpofbfigaaaGreatDoor
open Go.RowKit

def sameK (d e : Dk) : Bool := decide (d = e)
theorem sameK_self (d : Dk) : sameK d d = true := by unfold sameK; simp
theorem sameK_of {d e : Dk} (h : d ≠ e) : sameK d e = false := decide_eq_false h
def likeTo (x y : List Ld) (k : Nat) : Prop := ∀ j, j < k → x.getD j nilLd = y.getD j nilLd
theorem like_all {x y : List Ld} (hl : x.length = y.length) (h : likeTo x y x.length) : x = y := by
  apply List.ext_getElem hl
  intro i h1 h2
  have := h i h1
  simpa [List.getD_eq_getElem?_getD, h1, h2] using this
def LkRel (x y : List Ld) (w : World) (i : Value) (wr : World) : Prop := ∃ k : Nat, k ≤ x.length ∧ i = .int .i64 k ∧ likeTo x y k ∧ w.grownBy wr none
theorem eqs_of {x y : Ld} (h : y = x) : (y.1 == x.1) = true ∧ ((bs y.2).toList == (bs x.2).toList) = true := by
  subst h; exact ⟨by simp, by simp⟩
theorem two_desks {w w' : World} {A B : Array Value} {T U : TypeId} (hg : ((w.alloc (.cells A T)).alloc (.cells B U)).grownBy w' none) : CellsAt w' w.heap.size A T ∧ CellsAt w' (w.heap.size + 1) B U :=
  ⟨(CellsAt.first w _ _ _).grown hg, (CellsAt.second w _ _ _).grown hg⟩

set_option maxRecDepth 8000 in
set_option maxHeartbeats 2000000 in
theorem dksame_loop (m : Int) (s : List UInt8) (xs ys : List Ld) (a b : Option Addr) (ca cb : Nat) (w : World) (hx : LdsAt w a xs) (hy : LdsAt w b ys) (hl : ys.length = xs.length) :
    Calls Tryz.prog 18 #[.agg #[.int .i64 m, .string (bs s), .slice a xs.length ca], .agg #[.int .i64 m, .string (bs s), .slice b xs.length cb]] w fun e' w' => e' = .returned (.bool (sameK ((m, s), xs) ((m, s), ys))) ∧ w.grownBy w' none := by
  have hm := hx.1
  unfold maxLen at hm
  have g2 : w.grownBy ((w.alloc (.cells #[.int .i64 m, .string (bs s), .slice a xs.length ca] 32)).alloc (.cells #[.int .i64 m, .string (bs s), .slice b xs.length cb] 32)) none := grownBy_trans (World.grownBy_alloc _ _ none) (World.grownBy_alloc _ _ none)
  have hb := fun w' (hg : World.grownBy _ w' none) => two_desks (w := w) (A := #[.int .i64 m, .string (bs s), .slice a xs.length ca]) (B := #[.int .i64 m, .string (bs s), .slice b xs.length cb]) (T := 32) (U := 32) hg
  have HX := Lib.hid (hx.grown g2)
  have HY := Lib.hid (hy.grown g2)
  have G2 := Lib.hid g2
  have HB := Lib.hid hb
  have HL := Lib.hid hl
  clear hx hy g2 hb hl
  go_enter Tryz.func18, Tryz.ntmps18
  go_wp2
  generalize hw : (w.alloc (.cells #[.int .i64 m, .string (bs s), .slice a xs.length ca] 32)).alloc (.cells #[.int .i64 m, .string (bs s), .slice b xs.length cb] 32) = w2 at *
  go_loopw [5] (fun i wr => LkRel xs ys w2 i wr) (fun i _ => xs.length - (intOf i).toNat)
  case atStart => exact ⟨0, by omega, rfl, fun j hj => absurd hj (by omega), grownBy_refl _ _⟩
  case round =>
    obtain ⟨k, hk, rfl, hup, hgr⟩ := hrel
    obtain ⟨hA, hC⟩ := HB.out _ hgr
    obtain ⟨a0, a1, a2⟩ := hA.three
    obtain ⟨b0, b1, b2⟩ := hC.three
    have Hup := Lib.hid hup
    have Hgr := Lib.hid hgr
    clear hup hgr hA hC
    by_cases hlt : k < xs.length
    · have hx2 := HX.out.grown Hgr.out
      have hy2 := HY.out.grown Hgr.out
      rcases hx2.2 with h0 | ⟨bx, ox, rfl, hbx, hcx⟩
      · rw [h0] at hlt; simp at hlt
      rcases hy2.2 with h0 | ⟨by', oy, rfl, hby, hcy⟩
      · have := HL.out; rw [h0] at this; simp at this; omega
      obtain ⟨x0, x1⟩ := hcx k hlt
      obtain ⟨y0, y1⟩ := hcy k (by have := HL.out; omega)
      clear hcx hcy hx2 hy2 hbx hby
      by_cases he : xs.getD k nilLd = ys.getD k nilLd
      · have hn : Hid (likeTo xs ys (k + 1)) := fun j hj => by
          by_cases q : j = k
          · rw [q]; exact he
          · exact Hup.out j (by omega)
        obtain ⟨q0, q1⟩ := eqs_of he
        generalize xs.getD k nilLd = p at *
        generalize ys.getD k nilLd = r at *
        clear he
        have p0 : (p.1 != r.1) = false := by simp only [bne, q0]; rfl
        go_wp2
        go_quiet (fail)
        go_wp2
        go_roundw
        case rel => exact ⟨k + 1, by omega, by go_num, hn.out, grownBy_drewN Hgr.out _⟩
        case measure => simp [intOf]; omega
      · have hf : Hid (sameK ((m, s), xs) ((m, s), ys) = false) := sameK_of fun q => he (by have e : xs = ys := (Prod.ext_iff.1 q).2; rw [e])
        have hot := other_of he
        generalize xs.getD k nilLd = p at *
        generalize ys.getD k nilLd = r at *
        clear he
        rcases hot with q0 | ⟨q0, q1⟩
        all_goals
          go_wp2
          go_quiet (fail)
          go_wp2
          go_ret
          exact ⟨by rw [hf.out]; rfl, grownBy_trans G2.out (grownBy_drewN Hgr.out _)⟩
    · obtain rfl : k = xs.length := by omega
      have hz : Hid (sameK ((m, s), xs) ((m, s), ys) = true) := by
        have := like_all HL.out.symm Hup.out
        rw [← this]; exact sameK_self _
      go_wp2
      go_ret
      exact ⟨by rw [hz.out]; first | rfl | trace_state, grownBy_trans G2.out Hgr.out⟩

set_option maxRecDepth 8000 in
set_option maxHeartbeats 2000000 in
theorem dksame_len (m : Int) (s : List UInt8) (xs ys : List Ld) (a b : Option Addr) (ca cb : Nat) (w : World) (hl : ¬ xs.length = ys.length) :
    Calls Tryz.prog 18 #[.agg #[.int .i64 m, .string (bs s), .slice a xs.length ca], .agg #[.int .i64 m, .string (bs s), .slice b ys.length cb]] w fun e' w' => e' = .returned (.bool false) ∧ w.grownBy w' none := by

  have hq : ((xs.length : Int) != (ys.length : Int)) = true := by simp; omega
  have g2 : w.grownBy ((w.alloc (.cells #[.int .i64 m, .string (bs s), .slice a xs.length ca] 32)).alloc (.cells #[.int .i64 m, .string (bs s), .slice b ys.length cb] 32)) none := grownBy_trans (World.grownBy_alloc _ _ none) (World.grownBy_alloc _ _ none)
  have G2 := Lib.hid g2
  clear g2
  go_enter Tryz.func18, Tryz.ntmps18
  go_wp2
  go_ret
  exact ⟨rfl, G2.out⟩
set_option maxRecDepth 8000 in
set_option maxHeartbeats 2000000 in
theorem dksame_now (m k : Int) (s u : List UInt8) (xs ys : List Ld) (a b : Option Addr) (ca cb : Nat) (w : World) (hq : (m == k) = false ∨ (m = k ∧ ((bs s).toList == (bs u).toList) = false)) :
    Calls Tryz.prog 18 #[.agg #[.int .i64 m, .string (bs s), .slice a xs.length ca], .agg #[.int .i64 k, .string (bs u), .slice b ys.length cb]] w fun e' w' => e' = .returned (.bool false) ∧ w.grownBy w' none := by
  have g2 : w.grownBy ((w.alloc (.cells #[.int .i64 m, .string (bs s), .slice a xs.length ca] 32)).alloc (.cells #[.int .i64 k, .string (bs u), .slice b ys.length cb] 32)) none := grownBy_trans (World.grownBy_alloc _ _ none) (World.grownBy_alloc _ _ none)
  have G2 := Lib.hid g2
  clear g2
  rcases hq with hq | ⟨rfl, hq⟩
  all_goals
    go_enter Tryz.func18, Tryz.ntmps18
    go_wp2
    go_ret
    exact ⟨rfl, G2.out⟩
theorem dksame_any (d e : Dk) (a b : Option Addr) (ca cb : Nat) (w : World) (hx : LdsAt w a d.2) (hy : LdsAt w b e.2) :
    Calls Tryz.prog 18 #[dkV d a ca, dkV e b cb] w fun e' w' => e' = .returned (.bool (sameK d e)) ∧ w.grownBy w' none := by
  obtain ⟨⟨m, s⟩, xs⟩ := d
  obtain ⟨⟨k, u⟩, ys⟩ := e
  unfold dkV
  by_cases h1 : (m, s) = (k, u)
  · cases h1
    by_cases h2 : xs.length = ys.length
    · have := dksame_loop m s xs ys a b ca cb w hx hy h2.symm
      rw [h2] at this ⊢
      exact this
    · rw [sameK_of (fun q => h2 (by have e : xs = ys := (Prod.ext_iff.1 q).2; rw [e]))]
      exact dksame_len m s xs ys a b ca cb w h2
  · rw [sameK_of (fun q => h1 (Prod.ext_iff.1 q).1)]
    exact dksame_now m k s u xs ys a b ca cb w (other_of h1)

set_option maxHeartbeats 1000000 in
theorem dkno_any (d : Dk) (a : Option Addr) (ca : Nat) (w : World) (hx : LdsAt w a d.2) :
    Calls Tryz.prog 22 #[dkV d a ca] w fun e' w' => e' = .returned (.bool (sameK d nilDk)) ∧ w.grownBy w' none := by
  have g1 : w.grownBy (w.alloc (.cells #[.int .i64 d.1.1, .string (bs d.1.2), .slice a d.2.length ca] 32)) none := World.grownBy_alloc _ _ none
  have cc := dksame_any d nilDk a none ca 0 _ (hx.grown g1) (LdsAt.nil _ _)
  have G1 := Lib.hid g1
  clear hx g1
  generalize sameK d nilDk = v at *
  unfold dkV nilDk at *
  change Calls Tryz.prog _ #[.agg #[.int .i64 d.1.1, .string (bs d.1.2), .slice a d.2.length ca], .agg #[.int .i64 0, .string ⟨#[]⟩, .slice none 0 0]] _ _ at cc
  go_enter Tryz.func22, Tryz.ntmps22
  go_wp2_with (first | (go_at_call 18; refine cc.mono ?_; rintro e w' ⟨rfl, hg⟩))
  go_ret
  exact ⟨rfl, grownBy_trans G1.out hg⟩

end Go.Proofs.YtlnffpofbfigaaaGreatDoor
