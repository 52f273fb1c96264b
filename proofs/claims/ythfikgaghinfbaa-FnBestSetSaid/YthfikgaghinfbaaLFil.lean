/-
  The function literal of solvedRows that fills one slice of truths by a function that it is handed, and puts it behind the list.
-/
import Derived.Test.YthfikgaghinfbaaLLis
import Derived.Laws.OwnMore
namespace Go.Proofs.Ythfikgaghinfbaa
open Go.RowKit

/-- The slice so far. -/
def FlRel (N L q : Nat) (w : World) (i : Value) (wr : World) : Prop :=
  ∃ (c : Nat) (vs : List Value), c ≤ pw N L ∧ i = .int .i64 c ∧ wr.ownsRow w.heap.size 4 1 (.slice (some ⟨w.heap.size, 0, none⟩) (pw N L) (pw N L)) (pw N L) vs ∧ (∀ j, j < c → vs[j]? = some (.bool (svB N L q j))) ∧ w.grownBy wr none
/-- What the literal leaves. -/
def FillPost (N L r base S : Nat) (w : World) (e : Ending) (w' : World) : Prop :=
  e = .returned (.tuple #[]) ∧ ∃ v', w'.cell? ⟨S, 0, none⟩ = some v' ∧ w'.frozen? ⟨S, 0, none⟩ = false ∧ ListB w' base N L (r + 1) v' ∧ ButS w w' base S

set_option maxRecDepth 100000 in
set_option maxHeartbeats 4000000 in
theorem fill_any (N L r : Nat) (hN : 1 ≤ N ∧ N ≤ 3) (hL : 1 ≤ L ∧ L ≤ 3) (hr : r ≤ 1000) (K : Nat) (cs : Array Value) (Bt Bp S base : Nat) (v : Value) (w : World) (eg : ∀ args w, (callFunc K args).run Try.prog w = .ok (.enter K args) w)
    (ht : w.cell? ⟨Bt, 0, none⟩ = some (.int .i64 N)) (hp : w.cell? ⟨Bp, 0, none⟩ = some (.int .i64 L)) (hs : w.cell? ⟨S, 0, none⟩ = some v) (hf : w.frozen? ⟨S, 0, none⟩ = false) (hl : ListB w base N L r v) (hS : S < base) (hb : base ≤ w.heap.size)
    (hc : ∀ w2, w.grownBy w2 none → ∀ c, c < pw N L → ∀ a cap, IntsAt w2 a (rowZ N L c) → Calls Try.prog K (#[.slice a L cap] ++ cs) w2 fun e w' => e = .returned (.bool (svB N L r c)) ∧ w2.grownBy w' none) :
    Calls Try.prog 72 #[.func (.func K) #[] cs, .pointer (some ⟨Bt, 0, none⟩), .pointer (some ⟨Bp, 0, none⟩), .pointer (some ⟨S, 0, none⟩)] w (FillPost N L r base S w) := by
  obtain ⟨i0, hi, hz0, hz1, hz2⟩ := info_parts infoBool
  obtain ⟨iR, hiR, hy0, hy1, hy2⟩ := info_parts infoBools
  have HN := Lib.hid hN
  have HL := Lib.hid hL
  have HT := Lib.hid ht
  have HP := Lib.hid hp
  have HSc := Lib.hid hs
  have HF := Lib.hid hf
  have HLi := Lib.hid hl
  have Hc := Lib.hid hc
  have cn := fun w => icount_any N L hN hL w
  have b1 := pw_le (N := N) (k := L) hN.2 hL.2
  have B1 := Lib.hid b1
  have A64 : ((pw N L : Nat) : Int) ≤ 64 := by omega
  have A0 : (1 : Int) ≤ ((pw N L : Nat) : Int) := by omega
  clear hN hL hf hl hc b1
  go_enter Try.func72, Try.ntmps72
  go_wp2_with (first
    | (go_at_call 73; refine (cn _).mono ?_; rintro e w' ⟨rfl, rfl⟩)
    | (at_make; refine wpList_make_full _ rfl _ _ 61 rfl w.heap.size 4 i0 (.bool false) 1 Try.underlying61 hi hz0 hz1 .i64 .i64 _ _ (pw N L) rfl rfl rfl rfl ?b2 ?b3 (Nat.le_refl _) ?_))
  case b2 => rw [hz2]; have := B1.out; omega
  case b3 => have := B1.out; unfold maxLen; omega
  intro w0 hown0 hgrow0
  have HO := Lib.hid hown0
  have HG := Lib.hid hgrow0
  clear hown0 hgrow0 ht hp hs
  go_wp2_with fail
  go_loopw [13] (fun i wr => FlRel N L r w i wr) (fun i _ => pw N L - (intOf i).toNat)
  case atStart => exact ⟨0, _, by omega, rfl, HO.out, fun j hj => absurd hj (by omega), HG.out⟩
  case round =>
    obtain ⟨c, vs, hcA, rfl, hown, hvs, hgr⟩ := hrel
    by_cases hlt : c < pw N L
    · have cr := irow_any N L c HN.out HL.out (by have := B1.out; omega) wr
      have ck := fun w2 (g2 : wr.grownBy w2 none) => Hc.out w2 (grownBy_trans hgr g2) c hlt
      have nt := hgr.cell HT.out (by simp)
      have np := hgr.cell HP.out (by simp)
      have hln := hown.1
      have hce0 := World.ownsRow.cellAt hown c (by omega)
      rw [List.getElem?_eq_getElem (by omega)] at hce0
      obtain ⟨u, hce⟩ : ∃ u, wr.cell? ⟨w.heap.size, c, none⟩ = some u := ⟨_, hce0⟩
      have HCE := Lib.hid hce
      have HFR := Lib.hid (fun w2 (g2 : wr.grownBy w2 none) => World.ownsRow.frozenAt (lown_kept hown g2) c)
      have HST := Lib.hid (fun w2 (g2 : wr.grownBy w2 none) x => World.ownsRow.stored (lown_kept hown g2) c (.bool x))
      have HGW := Lib.hid (fun w2 (g2 : wr.grownBy w2 none) x => grownBy_row (grownBy_trans hgr g2) (lown_kept hown g2) (Nat.le_refl _) (World.ownsRow.stored (lown_kept hown g2) c (.bool x)).2)
      have HV : Hid (∀ j, j < c + 1 → (vs.set c (.bool (svB N L r c)))[j]? = some (.bool (svB N L r j))) := fun j hj => by
        by_cases e : j = c
        · subst e; rw [List.getElem?_set_self (by omega)]
        · rw [List.getElem?_set_ne (by omega)]; exact hvs j (by omega)
      have HLT := Lib.hid hlt
      have i0' : (0 : Int) ≤ (c : Int) := by omega
      have i1' : (c : Int) < ((pw N L : Nat) : Int) := by omega
      clear hown hvs hgr hce hce0 hlt hcA hln
      go_wp2_with fail
      refine cr.mono ?_
      rintro e w2 ⟨ra, rc, rfl, hR, g2⟩
      clear cr
      have ck := ck w2 g2 ra rc hR
      have G2 := Lib.hid g2
      clear hR g2
      go_wp2_with fail
      refine ck.mono ?_
      rintro e w3 ⟨rfl, g3⟩
      clear ck
      have g23 := grownBy_trans G2.out g3
      have hfr := HFR.out w3 g23
      have hce3 := g23.cell HCE.out (by simp)
      have hst := Lib.hid (HST.out w3 g23 (svB N L r c))
      have hgw := Lib.hid (HGW.out w3 g23 (svB N L r c))
      clear g3 g23
      generalize svB N L r c = bb at *
      go_wp2_with fail
      go_roundw
      case rel => exact ⟨c + 1, _, HLT.out, by go_num, hst.out.1, HV.out, hgw.out⟩
      case measure => have := HLT.out; simp [intOf]; omega
    · obtain rfl : c = pw N L := by omega
      have e := bitsV_is (N := N) (L := L) (q := r) (vs := vs) (by have := hown.1; omega) hvs
      subst e
      have HRow : Hid (RowB wr base N L r (.slice (some ⟨w.heap.size, 0, none⟩) (pw N L) (pw N L))) := ⟨w.heap.size, rfl, lown_mono hown hb⟩
      obtain ⟨vals, l1, l2⟩ := HLi.out.kept hgr
      have Hl2 := Lib.hid l2
      have Hl1 := Lib.hid l1
      have Hgr := Lib.hid hgr
      have sl : S < w.heap.size := Nat.lt_of_lt_of_le hS hb
      have hsc := hgr.cell HSc.out (by simp)
      have hsf : wr.frozen? ⟨S, 0, none⟩ = false := (World.frozen?_of_block (w := w) (a := ⟨S, 0, none⟩) (hgr.block S sl (by simp))).trans HF.out
      have hwr := hgr.size
      clear l2 hown hvs hgr hlt hcA
      go_wp2_with (at_builtin; refine wpList_append_own _ rfl _ _ 56 rfl base 61 iR (.slice none 0 0) 1 24 Try.underlying56 hiR hy0 hy1 hy2 rfl (by decide) _ r vals rfl (World.ownsRow.alloc l1 _) ⟨wr.heap.size, 0, none⟩ 1 1 [.slice (some ⟨w.heap.size, 0, none⟩) (pw N L) (pw N L)] rfl rfl ?a1 ?a2 ?a3 ?a4 ?a5 ?_)
      case a1 =>
        intro j u hj
        match j, hj with
        | 0, hj => simp at hj; subst hj; simp [Addr.add]
      case a2 => intro u hu; simp at hu; subst hu; rfl
      case a3 => unfold maxLen; omega
      case a4 => omega
      case a5 => simp; omega
      intro v' w4 ho4 gr4 _
      have hA4 := World.ownsRow.alloc Hl1.out (.cells #[.slice (some ⟨w.heap.size, 0, none⟩) (pw N L) (pw N L)] 61)
      have gA := World.grownBy_alloc wr (.cells #[.slice (some ⟨w.heap.size, 0, none⟩) (pw N L) (pw N L)] 61) none
      have HL4 : Hid (ListB w4 base N L (r + 1) v') := ListB.more hA4 (fun i hi => by obtain ⟨u, q1, q2⟩ := Hl2.out i hi; exact ⟨u, q1, q2.kept gA⟩) (HRow.out.kept gA) ho4 gr4
      obtain ⟨av, cv, rfl⟩ := HL4.out.shape
      have hne : some S ≠ v.ownBlock := fun e => by have := World.ownsRow.lt hA4 S e.symm; omega
      have gS := (gr4.block S (by simp; omega) hne).trans (gA.block S (by omega) (by simp))
      have n4 : w4.cell? ⟨S, 0, none⟩ = some v := (World.cell?_of_block (w := wr) (a := ⟨S, 0, none⟩) gS).trans hsc
      have f4 : w4.frozen? ⟨S, 0, none⟩ = false := (World.frozen?_of_block (w := wr) (a := ⟨S, 0, none⟩) gS).trans hsf
      have HB4 : Hid (ButS w w4 base S) := ⟨gr4.os.trans (gA.os.trans Hgr.out.os), gr4.tape.trans (gA.tape.trans Hgr.out.tape), gr4.output.trans (gA.output.trans Hgr.out.output), Nat.le_trans Hgr.out.size (Nat.le_trans gA.size gr4.size), fun k hk hne2 => by
        refine (gr4.block k (by simp; omega) fun e => ?_).trans ((gA.block k (by omega) (by simp)).trans (Hgr.out.block k (by omega) (by simp)))
        have := World.ownsRow.lt hA4 k e.symm
        omega⟩
      have HSt := Lib.hid (grownBy_set w4 S 0 (.slice av (r + 1) cv))
      have HCs : Hid ((w4.setCell ⟨S, 0, none⟩ (.slice av (r + 1) cv)).cell? ⟨S, 0, none⟩ = some (.slice av (r + 1) cv)) := by unfold Hid; rw [World.cell?_setCell_same _ _ _ n4]
      have HFs : Hid ((w4.setCell ⟨S, 0, none⟩ (.slice av (r + 1) cv)).frozen? ⟨S, 0, none⟩ = false) := by unfold Hid; rw [World.frozen?_setCell]; exact f4
      clear hA4 gA ho4 gr4 l1 hsc hsf gS
      go_wp2_with fail
      go_end0
      exact ⟨rfl, _, HCs.out, HFs.out, HL4.out.below hS HSt.out, ⟨HSt.out.os.trans HB4.out.os, HSt.out.tape.trans HB4.out.tape, HSt.out.output.trans HB4.out.output, Nat.le_trans HB4.out.size HSt.out.size, fun k hk hne2 => by
        have h4 := HB4.out.size
        exact (HSt.out.block k (by omega) (by simpa using hne2)).trans (HB4.out.block k hk hne2)⟩⟩

end Go.Proofs.Ythfikgaghinfbaa
