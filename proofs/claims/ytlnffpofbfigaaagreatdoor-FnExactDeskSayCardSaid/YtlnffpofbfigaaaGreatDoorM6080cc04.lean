/-
  Joined out of the texts DYg, DZb, DZc, DZd: what each holds is told at its head.
-/
import Derived.Test.YtlnffpofbfigaaaGreatDoorM4813c4ce
import Derived.Test.YtlnffpofbfigaaaGreatDoorM2175222d
import Derived.Test.YtlnffpofbfigaaaGreatDoorM10e1a973
import Derived.Deep.RegionHeld3
import Derived.Deep.DeepCutAuto
import Derived.Test.YtlnffpofbfigaaaGreatDoorN891658c6

/-
  The walk of FnDeskSay.
-/
namespace Go.Proofs.YtlnffpofbfigaaaGreatDoor
open Go.RowKit

/-- What a call of DeskSay answers, by letters. -/
def SayTo (p : Int) (u : List UInt8) (ys : List Ld) (A : List ByteArray) (w : World) (e : Ending) (w' : World) : Prop := ∃ (a : Option Addr) (cap : Nat) (b : Option Addr) (capb : Nat), e = .returned (.tuple #[.agg #[.int .i64 p, .string (bs u), .slice a ys.length cap], .slice b A.length capb]) ∧ OwnL w' w.heap.size a ys ∧ (a = none → cap = 0) ∧ OwnT w' w.heap.size b capb A ∧ w.grownBy w' none
def SayToG (p : Int) (u : List UInt8) (ys : List Ld) (A : List ByteArray) (w : World) (e : Ending) (w' : World) : Prop := ∃ (a : Option Addr) (cap g capb : Nat), e = .returned (.tuple #[.agg #[.int .i64 p, .string (bs u), .slice a ys.length cap], .slice (some ⟨g, 0, none⟩) A.length capb]) ∧ OwnL w' w.heap.size a ys ∧ (a = none → cap = 0) ∧ OwnT w' w.heap.size (some ⟨g, 0, none⟩) capb A ∧ w.grownBy w' none
theorem sayTo_of {r : Dk × List ByteArray} {p : Int} {u : List UInt8} {ys : List Ld} {A : List ByteArray} {w w' : World} {e : Ending} (hr : r = (((p, u), ys), A)) (h : SayPost r w e w') : SayTo p u ys A w e w' := by
  subst hr
  obtain ⟨a, cap, b, capb, rfl, ho, h0, ht, _, hg⟩ := h
  exact ⟨a, cap, b, capb, rfl, ho, h0, ht, hg⟩
theorem sayToG_of {r : Dk × List ByteArray} {p : Int} {u : List UInt8} {ys : List Ld} {A : List ByteArray} {w w' : World} {e : Ending} (hr : r = (((p, u), ys), A)) (h : SayG r w e w') : SayToG p u ys A w e w' := by
  subst hr
  obtain ⟨a, cap, g, capb, rfl, ho, h0, ht, hg⟩ := h
  exact ⟨a, cap, g, capb, rfl, ho, h0, ht, hg⟩
def GotS (W : World) (p : Int) (u : List UInt8) (ys : List Ld) (A : List ByteArray) (pv bv : Value) (wc : World) : Prop := ∃ g capb : Nat, GotV W p u ys (.slice (some ⟨g, 0, none⟩) A.length capb) pv bv wc ∧ OwnT wc W.heap.size (some ⟨g, 0, none⟩) capb A
theorem gotS_new {W wc : World} {m : Int} {s : List UInt8} {xs : List Ld} {A : List ByteArray} {a : Option Addr} {g cap capb base : Nat} (ho : OwnL wc base a xs) (hz : a = none → cap = 0) (ht : OwnT wc base (some ⟨g, 0, none⟩) capb A) (hb : W.heap.size ≤ base) (hg : W.grownBy wc none) :
    GotS W m s xs A (.pointer (some ⟨wc.heap.size, 0, none⟩)) (.slice (some ⟨g, 0, none⟩) A.length capb) (wc.alloc (.cells #[.int .i64 m, .string (bs s), .slice a xs.length cap] 32)) :=
  ⟨g, capb, gotV_new ho hz hb hg, (ht.kept (World.grownBy_alloc _ _ none)).mono hb⟩
theorem gotS_old {W wc : World} {m : Int} {s : List UInt8} {xs : List Ld} {A : List ByteArray} {a : Option Addr} {g cap capb base b : Nat} {x y z : Value} (ho : OwnL wc base a xs) (hz : a = none → cap = 0) (ht : OwnT wc base (some ⟨g, 0, none⟩) capb A) (hb : W.heap.size ≤ base) (hg : W.grownBy wc none) (hB : CellsAt wc b #[x, y, z] 32) (hw : W.heap.size ≤ b) :
    GotS W m s xs A (.pointer (some ⟨b, 0, none⟩)) (.slice (some ⟨g, 0, none⟩) A.length capb) (((wc.setCell ⟨b, 0, none⟩ (.int .i64 m)).setCell ⟨b, 1, none⟩ (.string (bs s))).setCell ⟨b, 2, none⟩ (.slice a xs.length cap)) :=
  ⟨g, capb, gotV_old ho hz hb hg hB hw, OwnT.mono (row_put3 ht hB _ _ _) hb⟩
theorem StrsAt.take {w : World} {a : Option Addr} {xs : List ByteArray} (h : StrsAt w a xs) (n : Nat) : StrsAt w a (xs.take n) := by
  refine ⟨Nat.le_trans (by rw [List.length_take]; omega) h.1, ?_⟩
  rcases h.2 with h | ⟨b, off, ha, hb, hc⟩
  · exact .inl (by rw [h, List.take_nil])
  · refine .inr ⟨b, off, ha, hb, fun i hi => ?_⟩
    rw [List.length_take] at hi
    have e : (xs.take n).getD i nilS = xs.getD i nilS := by
      rw [List.getD_eq_getElem?_getD, List.getD_eq_getElem?_getD, List.getElem?_take, if_pos (by omega)]
    rw [e]
    exact hc i (by omega)
theorem StrsAt.drop {w : World} {b off : Nat} {xs : List ByteArray} (h : StrsAt w (some ⟨b, off, none⟩) xs) (n : Nat) : StrsAt w (some ⟨b, off + n, none⟩) (xs.drop n) := by
  refine ⟨Nat.le_trans (by rw [List.length_drop]; omega) h.1, ?_⟩
  rcases h.2 with h | ⟨b', off', ha, hb, hc⟩
  · exact .inl (by rw [h, List.drop_nil])
  · cases ha
    refine .inr ⟨b, off + n, rfl, hb, fun i hi => ?_⟩
    rw [List.length_drop] at hi
    have e : (xs.drop n).getD i nilS = xs.getD (n + i) nilS := by
      rw [List.getD_eq_getElem?_getD, List.getD_eq_getElem?_getD, List.getElem?_drop]
    have k := hc (n + i) (by omega)
    rw [← Nat.add_assoc] at k
    rw [e]
    exact k
theorem strs_news {w : World} {g : Nat} {L : List ByteArray} (h : StrsAt w (some ⟨g, 0, none⟩) L) : ∀ j v, (L.map Value.string)[j]? = some v → w.cell? ((⟨g, 0, none⟩ : Addr).add j) = some v := by
  intro j v hv
  rw [List.getElem?_map] at hv
  cases hq : L[j]? with
  | none => rw [hq] at hv; cases hv
  | some x =>
    rw [hq] at hv
    cases hv
    have hj := (List.getElem?_eq_some_iff.1 hq).1
    rcases h.2 with h | ⟨b, off, ha, _, hc⟩
    · rw [h] at hj; simp at hj
    · cases ha
      have := hc j hj
      rw [List.getD_eq_getElem?_getD, hq] at this
      rw [add_none]
      exact this
theorem strs_one (L : List ByteArray) : ∀ u ∈ L.map Value.string, u.oneCell' = true := by
  intro u hu
  obtain ⟨x, _, rfl⟩ := List.mem_map.1 hu
  rfl
/-- An append into a row of texts of the call's own, at an operation whose guard holds. -/
theorem append_texts (w : World) {ops : Array Oper} {rest : List Oper} {o : Oper} {a : Act} {Q : Exit → Act → World → Prop} (hw : Region.wanted o (yielded ops a.tmps) = true) (s x : Operand) (ho : o.op = .call { callee := .builtin .append, args := #[s, x], argTypes := #[49, 49] })
    (base : Nat) (v : Value) (n : Nat) (xs : List Value) (hs : a.eval s = v) (hown : w.ownsRow base 9 1 v n xs) (g c : Nat) (L : List ByteArray) (hx : a.eval x = .slice (some ⟨g, 0, none⟩) L.length c) (hnews : ∀ j u, (L.map Value.string)[j]? = some u → w.cell? ((⟨g, 0, none⟩ : Addr).add j) = some u) (hn : n + L.length ≤ 1000000) (hbase : base ≤ w.heap.size)
    (h : ∀ v' w', w'.ownsRow base 9 1 v' (n + L.length) (xs ++ L.map Value.string) → w.grownBy w' v.ownBlock → wpList Tryz.prog ops Q rest (a.put o.dst v') w') : wpList Tryz.prog ops Q (o :: rest) a w := by
  obtain ⟨i0, hi0, hz0, hz1, hz2⟩ := info_parts infoTx
  refine wpList_step fun K hK => ?_
  rw [if_pos hw]
  exact wp_append_own w s x 49 ho base 9 i0 (.string ⟨#[]⟩) 1 16 Tryz.underlying49 hi0 hz0 hz1 hz2 rfl (by decide) v n xs hs hown ⟨g, 0, none⟩ L.length c (L.map Value.string) hx (by simp) hnews (strs_one L) (by unfold maxLen; omega) (by omega) hbase fun v' w' h2 h3 _ => hK _ _ (h v' w' h2 h3)

theorem StrsAt.row {w0 w w' : World} {a : Option Addr} {L : List ByteArray} {base n : Nat} {v : Value} {zs : List Value} (h0 : StrsAt w0 a L) (hb0 : w0.heap.size ≤ base) (h : StrsAt w a L) (ho : w.ownsRow base 9 1 v n zs) (hg : w.grownBy w' v.ownBlock) : StrsAt w' a L := by
  refine ⟨h.1, ?_⟩
  rcases h0.2 with h0 | ⟨b, off, ha, hb, _⟩
  · exact .inl h0
  · rcases h.2 with h | ⟨b', off', ha', hb', hc⟩
    · exact .inl h
    · have e : b' = b := by rw [ha] at ha'; cases ha'; rfl
      exact .inr ⟨b', off', ha', Nat.lt_of_lt_of_le hb' hg.size, fun i hi => (World.cell?_of_block (w := w) (a := ⟨b', off' + i, none⟩) (hg.block b' hb' fun q => by have := World.ownsRow.lt ho _ q.symm; omega)).trans (hc i hi)⟩
theorem pos_ne {A : ByteArray} (h : 0 < A.size) : A.toList.isEmpty = false := by
  have h2 : A.size = A.data.toList.length := Array.length_toList.symm
  rw [ByteArray.toList_eq]
  rw [h2] at h
  cases hz : A.data.toList with
  | nil => rw [hz] at h; simp at h
  | cons x l => rfl
/-- Two parts, one after the other. -/
theorem talk_parts {d e : Dk} {L A : List ByteArray} (H : Nat) (hd : dkB d = true ∧ L.length ≤ 40) (h : talkR d L = (e, A)) : nextD (nextD d (L.take H)) (L.drop H) = e ∧ saysD d (L.take H) ++ saysD (nextD d (L.take H)) (L.drop H) = A ∧ dkB (nextD d (L.take H)) = true ∧ dkB e = true ∧ A.length = L.length ∧ ∀ x ∈ A, 0 < x.size := by
  rw [talkR_yes hd.1 hd.2] at h
  cases h
  refine ⟨?_, ?_, nextD_ok _ hd.1, nextD_ok _ hd.1, saysD_len _ _, saysD_pos L hd.1⟩
  · rw [← nextD_app, List.take_append_drop]
  · rw [← saysD_app, List.take_append_drop]

set_option maxRecDepth 100000 in
set_option maxHeartbeats 16000000 in
theorem FnDeskSay_walk (a0 : Option Addr) (len0 cap0 : Nat) (z0 : List Int) (w : World) (w0 : IsRow .u8 w a0 len0 cap0 z0) (hT : WdAt w ∧ ErAt w) :
    Calls Tryz.prog 5 #[.slice a0 len0 cap0] w fun e w' => e = .returned (.bool true) ∧ Below w.heap.size w w' := by
  by_cases hl : (1048576 : Int) < (len0 : Int)
  · clear w0
    go_enter Tryz.func5, Tryz.ntmps5
    go_wp2_with fail
    go_ret
    exact ⟨rfl, Below.refl _ _⟩
  · go_enter Tryz.func5, Tryz.ntmps5
    go_wp2_with fail
    refine (DrawDeskSay_any _ _ _ _ _ w0).mono ?_
    rintro e w1 ⟨d, a, c, L, b, capb, rfl, hd, h0, hdl, hway, hDl, g1⟩
    clear w0
    obtain ⟨⟨m, s⟩, xs⟩ := d
    obtain ⟨hlc, hcm, g, rfl⟩ := hway
    have hA := CellsAt.new w1 #[.int .i64 m, .string (bs s), .slice a xs.length c] 32
    have gA := World.grownBy_alloc w1 (.cells #[.int .i64 m, .string (bs s), .slice a xs.length c] 32) none
    have hx := hd.grown gA
    have hlx := hdl.grown gA
    have G1 := Lib.hid (grownBy_trans g1 gA)
    have HT := Lib.hid (show WdAt _ ∧ ErAt _ from ⟨hT.1.grown G1.out, hT.2.grown G1.out⟩)
    clear g1 hd gA hdl hT
    unfold dkV
    go_wp2_with fail
    change LdsAt _ a xs at hx
    generalize w1.alloc (.cells #[.int .i64 m, .string (bs s), .slice a xs.length c] 32) = W1 at *
    generalize w1.heap.size = bd at *
    have HA := Lib.hid hA
    have HX := Lib.hid hx
    have HL := Lib.hid hlx
    have HS := Lib.hid (show ∀ x ∈ L, x.size ≤ 2097152 from fun x hx => by have := hDl x hx; omega)
    clear hA hx hlx hDl
    obtain ⟨⟨⟨⟨p, u⟩, ys⟩, A⟩, hR⟩ : ∃ R, R = talkR ((m, s), xs) L := ⟨_, rfl⟩
    have c1 : ∀ w, W1.grownBy w none → Calls Tryz.prog 25 #[.agg #[.int .i64 m, .string (bs s), .slice a xs.length c], .slice (some ⟨g, 0, none⟩) L.length capb] w (SayTo p u ys A w) := fun w hg => (idsay_any ((m, s), xs) L a (some ⟨g, 0, none⟩) c capb w (HX.out.grown hg) h0 (HL.out.grown hg) HS.out ⟨HT.out.1.grown hg, HT.out.2.grown hg⟩).mono fun _ _ q => sayTo_of hR.symm q
    have c2 : ∀ w, W1.grownBy w none → Calls Tryz.prog 26 #[.agg #[.int .i64 m, .string (bs s), .slice a xs.length c], .slice (some ⟨g, 0, none⟩) L.length capb] w (SayTo p u ys A w) := fun w hg => (sdsay_any ((m, s), xs) L a (some ⟨g, 0, none⟩) c capb w (HX.out.grown hg) h0 (HL.out.grown hg) HS.out).mono fun _ _ q => sayTo_of hR.symm q
    refine (c1 _ (grownBy_refl _ _)).mono ?_
    rintro e w2 ⟨a1, k1, b1, n1, rfl, o1, z1, t1, g2⟩
    have hX := CellsAt.new w2 #[.int .i64 p, .string (bs u), .slice a1 ys.length k1] 32
    have gX := World.grownBy_alloc w2 (.cells #[.int .i64 p, .string (bs u), .slice a1 ys.length k1] 32) none
    have o1' := o1.at.grown gX
    have t1' := t1.at.grown gX
    have G2 := Lib.hid (grownBy_trans g2 gX)
    obtain ⟨x0, x1, x2⟩ := (HA.out.grown G2.out).three
    clear g2 o1 t1 gX c1
    go_wp2_with fail
    generalize w2.alloc (.cells #[.int .i64 p, .string (bs u), .slice a1 ys.length k1] 32) = W2 at *
    generalize w2.heap.size = bx at *
    have HB := Lib.hid hX
    have L1 := Lib.hid o1'
    have TQ1 := Lib.hid t1'
    clear hX o1' t1'
    refine (c2 _ G2.out).mono ?_
    rintro e w3 ⟨a2, k2, b2, n2, rfl, o2, z2, t2, g3⟩
    have hY := CellsAt.new w3 #[.int .i64 p, .string (bs u), .slice a2 ys.length k2] 32
    have gY := World.grownBy_alloc w3 (.cells #[.int .i64 p, .string (bs u), .slice a2 ys.length k2] 32) none
    have g23 := grownBy_trans g3 gY
    have HBB := Lib.hid (HB.out.grown g23)
    have L1' := Lib.hid (L1.out.grown g23)
    have T1' := Lib.hid (TQ1.out.grown g23)
    have L2 := Lib.hid (o2.at.grown gY)
    have T2 := Lib.hid (t2.at.grown gY)
    have G3 := Lib.hid (grownBy_trans G2.out g23)
    obtain ⟨x0, x1, x2⟩ := HBB.out.three
    obtain ⟨y0, y1, y2⟩ := hY.three
    clear g3 o2 t2 gY c2 g23 z2
    go_wp2_with fail
    generalize w3.alloc (.cells #[.int .i64 p, .string (bs u), .slice a2 ys.length k2] 32) = W3 at *
    generalize w3.heap.size = bb at *
    clear hY
    have c3 : ∀ w, W3.grownBy w none → Calls Tryz.prog 18 #[.agg #[.int .i64 p, .string (bs u), .slice a1 ys.length k1], .agg #[.int .i64 p, .string (bs u), .slice a2 ys.length k2]] w fun e w' => e = .returned (.bool true) ∧ w.grownBy w' none := fun w hg => by
      have := dksame_any ((p, u), ys) ((p, u), ys) a1 a2 k1 k2 w (L1'.out.grown hg) (L2.out.grown hg)
      rw [sameK_self] at this
      exact this
    refine (c3 _ (grownBy_refl _ _)).mono ?_
    rintro e w3' ⟨rfl, g3'⟩
    have cT := sameTx_any b1 b2 n1 n2 A w3' (T1'.out.grown g3') (T2.out.grown g3')
    go_wp2_with fail
    refine cT.mono ?_
    rintro e w4 ⟨rfl, g4'⟩
    have g4 := grownBy_trans g3' g4'
    have G4 := Lib.hid (grownBy_trans G3.out g4)
    have HB4 := Lib.hid (HBB.out.grown g4)
    have L4 := Lib.hid (L1'.out.grown g4)
    have T4 := Lib.hid (T1'.out.grown g4)
    obtain ⟨x0, x1, x2⟩ := HB4.out.three
    obtain ⟨y0, y1, y2⟩ := (HA.out.grown G4.out).three
    clear c3 g4 g3' g4' HBB L1' T1' L2 T2 L1 TQ1 HB cT
    have cO : ∀ w, W1.grownBy w none → Calls Tryz.prog 13 #[.agg #[.int .i64 m, .string (bs s), .slice a xs.length c]] w fun e w' => e = .returned (.bool (dkB ((m, s), xs))) ∧ w.grownBy w' none := fun w hg => sdesk_is ((m, s), xs) a c w (HX.out.grown hg)
    by_cases hdk : dkB ((m, s), xs) = true ∧ L.length ≤ 40
    case neg =>
      have hr := talkR_no hdk
      rw [← hR] at hr
      cases hr
      have cn : ∀ w, w4.grownBy w none → Calls Tryz.prog 22 #[.agg #[.int .i64 0, .string (bs []), .slice a1 0 k1]] w fun e w' => e = .returned (.bool true) ∧ w.grownBy w' none := fun w hg => by
        have := dkno_any ((0, []), []) a1 k1 w (L4.out.grown hg)
        rw [show sameK ((0, []), []) nilDk = true from sameK_self _] at this
        exact this
      clear hR
      cases hd0 : dkB ((m, s), xs)
      · rw [hd0] at cO
        clear hdk
        go_wp2_with (first | (go_at_call 13; (with_reducible refine (cO _ G4.out).mono ?_); rintro e w5 ⟨rfl, g5⟩; obtain ⟨x0, x1, x2⟩ := (HB4.out.grown g5).three; have G5 := Lib.hid g5; clear g5 cO) | (go_at_call 22; (with_reducible refine (cn _ G5.out).mono ?_); rintro e w6 ⟨rfl, g6⟩) | (go_at_call 19; refine (alive_any _).mono ?_; rintro e w9 ⟨rfl, rfl⟩))
        go_ret
        exact ⟨rfl, below_of (grownBy_trans G1.out (grownBy_trans G4.out (grownBy_trans G5.out g6)))⟩
      · rw [hd0] at cO
        have hll : (40 : Int) < (L.length : Int) := by
          have : 40 < L.length := Nat.lt_of_not_le fun q => hdk ⟨hd0, q⟩
          omega
        clear hdk
        go_wp2_with (first | (go_at_call 13; (with_reducible refine (cO _ G4.out).mono ?_); rintro e w5 ⟨rfl, g5⟩; obtain ⟨x0, x1, x2⟩ := (HB4.out.grown g5).three; have G5 := Lib.hid g5; clear g5 cO) | (go_at_call 22; (with_reducible refine (cn _ G5.out).mono ?_); rintro e w6 ⟨rfl, g6⟩) | (go_at_call 19; refine (alive_any _).mono ?_; rintro e w9 ⟨rfl, rfl⟩))
        go_ret
        exact ⟨rfl, below_of (grownBy_trans G1.out (grownBy_trans G4.out (grownBy_trans G5.out g6)))⟩
    rw [hdk.1] at cO
    have hll : ¬ ((40 : Int) < (L.length : Int)) := by omega
    obtain ⟨H, hH⟩ : ∃ H, H = L.length / 2 := ⟨_, rfl⟩
    have hHl : H ≤ L.length := by omega
    have HH := Lib.hid hH
    have HH2 := Lib.hid (show ((L.length : Int) / 2) = (H : Int) by omega)
    have hl0 : (0 : Int) ≤ (L.length : Int) := by omega
    obtain ⟨hne, hap, hok1, hok, hAl, hpos⟩ := talk_parts H hdk hR.symm
    obtain ⟨⟨⟨p1, v1⟩, zs1⟩, hE1⟩ : ∃ R, R = nextD ((m, s), xs) (L.take H) := ⟨_, rfl⟩
    obtain ⟨A1, hA1⟩ : ∃ R, R = saysD ((m, s), xs) (L.take H) := ⟨_, rfl⟩
    rw [← hE1] at hne hap hok1
    rw [← hA1] at hap
    obtain ⟨A2, hA2⟩ : ∃ R, R = saysD ((p1, v1), zs1) (L.drop H) := ⟨_, rfl⟩
    rw [← hA2] at hap
    have hlt : (L.take H).length = H := by rw [List.length_take]; omega
    have hld : (L.drop H).length = L.length - H := by rw [List.length_drop]
    have c4 : ∀ w, W1.grownBy w none → Calls Tryz.prog 25 #[.agg #[.int .i64 m, .string (bs s), .slice a xs.length c], .slice (some ⟨g, 0, none⟩) H capb] w (SayToG p1 v1 zs1 A1 w) := fun w hg => by
      have := (idsay_ok m s xs (L.take H) a (some ⟨g, 0, none⟩) c capb w (HX.out.grown hg) h0 ((HL.out.take H).grown hg) (fun x hx => HS.out x (List.mem_of_mem_take hx)) hdk.1 (by omega) ⟨HT.out.1.grown hg, HT.out.2.grown hg⟩).mono fun _ _ q => sayToG_of (by rw [← hE1, ← hA1]) q
      rw [hlt] at this
      exact this
    have HAP := Lib.hid hap
    have HAL := Lib.hid hAl
    have HPO := Lib.hid hpos
    have HNE := Lib.hid hne
    have HA2 := Lib.hid hA2
    have HLT := Lib.hid hlt
    have HLD := Lib.hid hld
    have hdk2 := hdk.2
    clear hap hAl hpos hne hA2 hlt hld hE1 hA1 hR hdk
    go_wp2_with fail
    refine (cO _ G4.out).mono ?_
    rintro e w5 ⟨rfl, g5⟩
    have G5 := Lib.hid (grownBy_trans G4.out g5)
    have HB5 := Lib.hid (HB4.out.grown g5)
    have L5 := Lib.hid (L4.out.grown g5)
    have T5 := Lib.hid (T4.out.grown g5)
    have KS : Hid (∀ w', w5.grownBy w' none → w'.cell? ⟨bd, 0, none⟩ = some (.int .i64 m) ∧ w'.cell? ⟨bd, 1, none⟩ = some (.string (bs s)) ∧ w'.cell? ⟨bd, 2, none⟩ = some (.slice a xs.length c) ∧ w5.grownBy w' none) := fun w' g => ⟨(HA.out.grown (grownBy_trans G5.out g)).three.1, (HA.out.grown (grownBy_trans G5.out g)).three.2.1, (HA.out.grown (grownBy_trans G5.out g)).three.2.2, g⟩
    clear g5 cO HB4 L4 T4 x0 x1 x2 y0 y1 y2 hH hHl
    go_wp2_with fail
    rw [HH2.out]
    have hHc : (H : Int) ≤ (capb : Int) := by have := HH.out; omega
    have hHl' : (H : Int) ≤ (L.length : Int) := by have := HH.out; omega
    have hH0 : (0 : Int) ≤ (H : Int) := by omega
    go_cut [10, 11] (fun pv bv wc => GotS w5 p1 v1 zs1 A1 pv bv wc)
    case first =>
      go_region_held3 (fun w' => w'.cell? ⟨bd, 0, none⟩ = some (.int .i64 m) ∧ w'.cell? ⟨bd, 1, none⟩ = some (.string (bs s)) ∧ w'.cell? ⟨bd, 2, none⟩ = some (.slice a xs.length c) ∧ w5.grownBy w' none) (first | exact KS.out _ (grownBy_drew (grownBy_refl _ none)) | exact KS.out _ (grownBy_trans (lastS4 (by assumption)) gd) | exact KS.out _ (grownBy_trans (lastS4 (by assumption)) (World.grownBy_alloc _ _ none)) | exact KS.out _ (grownBy_trans G9.out (World.grownBy_alloc _ _ none)) | exact KS.out _ (put3_grown _ G9.out (by exact Nat.le_refl _) _ _ _) | exact KS.out _ (put3_grown _ (grownBy_trans G9.out (World.grownBy_alloc _ _ none)) G9.out.size _ _ _)) (first | (go_at_call 25; (with_reducible refine (c4 _ (grownBy_trans G5.out (lastS4 (by assumption)))).mono ?_); rintro e wd ⟨a3, c3, g3, k3, rfl, o3, z3, t3, gd⟩; have G9 := Lib.hid (grownBy_trans (lastS4 (by assumption)) gd); have OW := Lib.hid (o3.mono (base' := w5.heap.size) (sizeS4 (by assumption))); have OT := Lib.hid (t3.mono (base' := w5.heap.size) (sizeS4 (by assumption))); have HN := Lib.hid (CellsAt.new wd #[.int .i64 0, .string ⟨#[]⟩, .slice none 0 0] 32); obtain ⟨⟨m0, m1, m2⟩, m3, m4, m5⟩ := dk_facts HN.out; have nl := HN.out.lt; (first | (with_reducible have HZ := Lib.hid (zero_1 (drew_grown gd)); obtain ⟨⟨q0, q1, q2⟩, j0, j1, j2⟩ := dk_facts HZ.out; have zl := HZ.out.lt) | (with_reducible have HZ := Lib.hid (zero_1 gd); obtain ⟨⟨q0, q1, q2⟩, j0, j1, j2⟩ := dk_facts HZ.out; have zl := HZ.out.lt) | skip)))
      all_goals go_wp2_with fail
      all_goals go_meet
      all_goals first | with_reducible exact gotS_new OW.out z3 OT.out (Nat.le_refl _) G9.out | with_reducible exact gotS_old (OW.out.kept (World.grownBy_alloc _ _ none)) z3 (OT.out.kept (World.grownBy_alloc _ _ none)) (Nat.le_refl _) (grownBy_trans G9.out (World.grownBy_alloc _ _ none)) HN.out G9.out.size | with_reducible exact gotS_old OW.out z3 OT.out (Nat.le_refl _) G9.out HZ.out (Nat.le_refl _) | (trace_state; fail)

    case rest =>
      obtain ⟨wA, rfl⟩ : ∃ x, x = wc := ⟨wc, rfl⟩
      obtain ⟨g3, k3, ⟨bA, a3, c3, rfl, rfl, hbA, hC, o3, z3, hg3⟩, t3⟩ := hcut
      have HA3 := Lib.hid hC
      have HO3 := Lib.hid o3
      have HT3 := Lib.hid t3
      have G6 := Lib.hid (grownBy_trans G5.out hg3)
      have HB6 := Lib.hid (HB5.out.grown hg3)
      have L6 := Lib.hid (L5.out.grown hg3)
      have T6 := Lib.hid (T5.out.grown hg3)
      have lbA := hC.lt
      have lbd' := (HA.out.grown G6.out).lt
      clear hC o3 t3 hg3 HB5 L5 T5 KS c4
      have KS : Hid (∀ w', wA.grownBy w' none → w'.cell? ⟨bA, 0, none⟩ = some (.int .i64 p1) ∧ w'.cell? ⟨bA, 1, none⟩ = some (.string (bs v1)) ∧ w'.cell? ⟨bA, 2, none⟩ = some (.slice a3 zs1.length c3) ∧ wA.grownBy w' none) := fun w' g => ⟨(HA3.out.grown g).three.1, (HA3.out.grown g).three.2.1, (HA3.out.grown g).three.2.2, g⟩
      have c5 : ∀ w, wA.grownBy w none → Calls Tryz.prog 25 #[.agg #[.int .i64 p1, .string (bs v1), .slice a3 zs1.length c3], .slice (some ⟨g, H, none⟩) (L.length - H) (capb - H)] w (SayToG p u ys A2 w) := fun w hg => by
        have hd2 := HL.out.drop H
        rw [Nat.zero_add] at hd2
        have := (idsay_ok p1 v1 zs1 (L.drop H) a3 (some ⟨g, H, none⟩) c3 (capb - H) w (HO3.out.at.grown hg) z3 (hd2.grown (grownBy_trans G6.out hg)) (fun x hx => HS.out x (List.mem_of_mem_drop hx)) hok1 (by rw [HLD.out]; omega) ⟨HT.out.1.grown (grownBy_trans G6.out hg), HT.out.2.grown (grownBy_trans G6.out hg)⟩).mono fun _ _ q => sayToG_of (by rw [HNE.out, ← HA2.out]) q
        rw [HLD.out] at this
        exact this
      go_wp2_with fail
      go_cut [12, 13] (fun pv bv wd => GotS wA p u ys A2 pv bv wd)
      case first =>
        by_cases hce : capb = H
        · obtain ⟨rfl, rfl⟩ : H = 0 ∧ capb = 0 := by have := HH.out; omega
          obtain rfl : L = [] := List.length_eq_zero_iff.1 (by have := HH.out; omega)
          simp only [List.length_nil, Nat.sub_zero] at c5
          clear hce
          go_region_held3 (fun w' => w'.cell? ⟨bA, 0, none⟩ = some (.int .i64 p1) ∧ w'.cell? ⟨bA, 1, none⟩ = some (.string (bs v1)) ∧ w'.cell? ⟨bA, 2, none⟩ = some (.slice a3 zs1.length c3) ∧ wA.grownBy w' none) (first | exact KS.out _ (grownBy_drew (grownBy_refl _ none)) | exact KS.out _ (grownBy_trans (lastS4 (by assumption)) gd) | exact KS.out _ (grownBy_trans (lastS4 (by assumption)) (World.grownBy_alloc _ _ none)) | exact KS.out _ (grownBy_trans G9.out (World.grownBy_alloc _ _ none)) | exact KS.out _ (put3_grown _ G9.out (by exact Nat.le_refl _) _ _ _) | exact KS.out _ (put3_grown _ (grownBy_trans G9.out (World.grownBy_alloc _ _ none)) G9.out.size _ _ _)) (first | (go_at_call 25; (with_reducible refine (c5 _ (lastS4 (by assumption))).mono ?_); rintro e wd ⟨a4, c4, g4, k4, rfl, o4, z4, t4, gd⟩; have G9 := Lib.hid (grownBy_trans (lastS4 (by assumption)) gd); have OW := Lib.hid (o4.mono (base' := wA.heap.size) (sizeS4 (by assumption))); have OT := Lib.hid (t4.mono (base' := wA.heap.size) (sizeS4 (by assumption))); have HN := Lib.hid (CellsAt.new wd #[.int .i64 0, .string ⟨#[]⟩, .slice none 0 0] 32); obtain ⟨⟨m0, m1, m2⟩, m3, m4, m5⟩ := dk_facts HN.out; have nl := HN.out.lt; (first | (with_reducible have HZ := Lib.hid (zero_1 (drew_grown gd)); obtain ⟨⟨q0, q1, q2⟩, j0, j1, j2⟩ := dk_facts HZ.out; have zl := HZ.out.lt) | (with_reducible have HZ := Lib.hid (zero_1 gd); obtain ⟨⟨q0, q1, q2⟩, j0, j1, j2⟩ := dk_facts HZ.out; have zl := HZ.out.lt) | skip)))
          all_goals go_wp2_with fail
          all_goals go_meet
          all_goals first | with_reducible exact gotS_new OW.out z4 OT.out (Nat.le_refl _) G9.out | with_reducible exact gotS_old (OW.out.kept (World.grownBy_alloc _ _ none)) z4 (OT.out.kept (World.grownBy_alloc _ _ none)) (Nat.le_refl _) (grownBy_trans G9.out (World.grownBy_alloc _ _ none)) HN.out G9.out.size | with_reducible exact gotS_old OW.out z4 OT.out (Nat.le_refl _) G9.out HZ.out (Nat.le_refl _) | (trace_state; fail)

        · have hce2 : ¬ (H = capb) := fun q => hce q.symm
          go_region_held3 (fun w' => w'.cell? ⟨bA, 0, none⟩ = some (.int .i64 p1) ∧ w'.cell? ⟨bA, 1, none⟩ = some (.string (bs v1)) ∧ w'.cell? ⟨bA, 2, none⟩ = some (.slice a3 zs1.length c3) ∧ wA.grownBy w' none) (first | exact KS.out _ (grownBy_drew (grownBy_refl _ none)) | exact KS.out _ (grownBy_trans (lastS4 (by assumption)) gd) | exact KS.out _ (grownBy_trans (lastS4 (by assumption)) (World.grownBy_alloc _ _ none)) | exact KS.out _ (grownBy_trans G9.out (World.grownBy_alloc _ _ none)) | exact KS.out _ (put3_grown _ G9.out (by exact Nat.le_refl _) _ _ _) | exact KS.out _ (put3_grown _ (grownBy_trans G9.out (World.grownBy_alloc _ _ none)) G9.out.size _ _ _)) (first | (go_at_call 25; (with_reducible refine (c5 _ (lastS4 (by assumption))).mono ?_); rintro e wd ⟨a4, c4, g4, k4, rfl, o4, z4, t4, gd⟩; have G9 := Lib.hid (grownBy_trans (lastS4 (by assumption)) gd); have OW := Lib.hid (o4.mono (base' := wA.heap.size) (sizeS4 (by assumption))); have OT := Lib.hid (t4.mono (base' := wA.heap.size) (sizeS4 (by assumption))); have HN := Lib.hid (CellsAt.new wd #[.int .i64 0, .string ⟨#[]⟩, .slice none 0 0] 32); obtain ⟨⟨m0, m1, m2⟩, m3, m4, m5⟩ := dk_facts HN.out; have nl := HN.out.lt; (first | (with_reducible have HZ := Lib.hid (zero_1 (drew_grown gd)); obtain ⟨⟨q0, q1, q2⟩, j0, j1, j2⟩ := dk_facts HZ.out; have zl := HZ.out.lt) | (with_reducible have HZ := Lib.hid (zero_1 gd); obtain ⟨⟨q0, q1, q2⟩, j0, j1, j2⟩ := dk_facts HZ.out; have zl := HZ.out.lt) | skip)))
          all_goals go_wp2_with fail
          all_goals go_meet
          all_goals first | with_reducible exact gotS_new OW.out z4 OT.out (Nat.le_refl _) G9.out | with_reducible exact gotS_old (OW.out.kept (World.grownBy_alloc _ _ none)) z4 (OT.out.kept (World.grownBy_alloc _ _ none)) (Nat.le_refl _) (grownBy_trans G9.out (World.grownBy_alloc _ _ none)) HN.out G9.out.size | with_reducible exact gotS_old OW.out z4 OT.out (Nat.le_refl _) G9.out HZ.out (Nat.le_refl _) | (trace_state; fail)

      case rest =>
        obtain ⟨g4, k4, ⟨bC, a4, c4, rfl, rfl, hbC, hC, o4, z4, hg4⟩, t4⟩ := hcut
        have HC := Lib.hid hC
        have L7 := Lib.hid (L6.out.grown hg4)
        have T7 := Lib.hid (T6.out.grown hg4)
        have G7 := Lib.hid (grownBy_trans G6.out hg4)
        have HB7 := Lib.hid (HB6.out.grown hg4)
        have O7 := Lib.hid o4.at
        have TA := Lib.hid (HT3.out.kept hg4).at
        have TB := Lib.hid t4.at
        have hu5 : ¬ (9223372036854775807 < 5 + (bs u).size) := by have := own_len hok; change u.length ≤ 60 at this; rw [bs_size]; omega
        obtain ⟨Y, hY⟩ : ∃ Y : ByteArray, Y = ⟨#[121, 101, 115]⟩ := ⟨_, rfl⟩
        have hYY : (Y.toList == [121, 101, 115]) = true := by rw [hY, ByteArray.toList_eq]; rfl
        have cF : ∀ w, wc.grownBy w none → Calls Tryz.prog 14 #[.agg #[.int .i64 p, .string (bs u), .slice a1 ys.length k1], .string (⟨#[102, 114, 111, 109, 32]⟩ ++ bs u)] w (LineTo p u ys Y w) := fun w hg => by
          have hlen := own_len hok
          change u.length ≤ 60 at hlen
          have := (idl_any ((p, u), ys) (fromS ++ u) a1 k1 w (by rw [List.length_append]; simp only [fromS, List.length_cons, List.length_nil]; omega) (L7.out.grown hg) z1 ⟨HT.out.1.grown (grownBy_trans G7.out hg), HT.out.2.grown (grownBy_trans G7.out hg)⟩).mono fun _ _ q => lineTo_of (line_own hok) q
          rw [← bs_app] at this
          rw [hY]
          exact this
        have cG : ∀ w, wc.grownBy w none → Calls Tryz.prog 14 #[.agg #[.int .i64 p, .string (bs u), .slice a1 ys.length k1], .string ⟨#[102, 114, 111, 109, 32, 48]⟩] w (LineTo p u ys Y w) := fun w hg => by
          have := (idl_any ((p, u), ys) (fromS ++ [48]) a1 k1 w (by simp [fromS]) (L7.out.grown hg) z1 ⟨HT.out.1.grown (grownBy_trans G7.out hg), HT.out.2.grown (grownBy_trans G7.out hg)⟩).mono fun _ _ q => lineTo_of (line_zero hok) q
          rw [hY]
          exact this
        have cS : ∀ w, wc.grownBy w none → Calls Tryz.prog 18 #[.agg #[.int .i64 p, .string (bs u), .slice a4 ys.length c4], .agg #[.int .i64 p, .string (bs u), .slice a1 ys.length k1]] w fun e w' => e = .returned (.bool true) ∧ w.grownBy w' none := fun w hg => by
          have := dksame_any ((p, u), ys) ((p, u), ys) a4 a1 c4 k1 w (O7.out.grown hg) (L7.out.grown hg)
          rw [sameK_self] at this
          exact this
        have hlen : ((A.length : Int) == (L.length : Int)) = true := by rw [HAL.out]; simp
        have hm : A.length ≤ 40 := by rw [HAL.out]; exact hdk2
        have hm12 : A1.length + A2.length = A.length := by rw [← HAP.out, List.length_append]
        have HM := Lib.hid hm12
        clear hC o4 t4 hg4 HO3 HA3 HT3 KS c5 L6 T6 HB6 hY hok hok1 hm12
        go_wp2_with fail
        go_loopw [14] (fun kv wr => ∃ i : Nat, i ≤ A.length ∧ kv = .int .i64 i ∧ wc = wr) (fun kv _ => A.length - (intOf kv).toNat)
        case atStart => exact ⟨0, by omega, rfl, rfl⟩
        case round =>
          obtain ⟨i, hi, rfl, rfl⟩ := hrel
          by_cases hlt : i < A.length
          · rcases T7.out.2 with q | ⟨bw, ow, rfl, _, hcx⟩
            · rw [q] at hlt; simp at hlt
            have k0 := hcx i hlt
            have hne := pos_ne (HPO.out _ (getD_mem_str hlt))
            clear hcx
            generalize A.getD i nilS = T at *
            go_wp2_with fail
            go_roundw
            case rel => exact ⟨i + 1, by omega, by go_num, trivial⟩
            case measure => simp [intOf]; omega
          · obtain ⟨x0, x1, x2⟩ := HB7.out.three
            go_wp2_with fail
            refine (cF _ (grownBy_refl _ _)).mono ?_
            rintro e w6 ⟨a6, k6, rfl, o6, z6, g6⟩
            have gZ := World.grownBy_alloc w6 (.cells #[.int .i64 p, .string (bs u), .slice a6 ys.length k6] 32) none
            have G8 := Lib.hid (grownBy_trans g6 gZ)
            obtain ⟨x0, x1, x2⟩ := (HB7.out.grown G8.out).three
            clear g6 gZ cF o6 z6
            go_wp2_with fail
            generalize w6.alloc (.cells #[.int .i64 p, .string (bs u), .slice a6 ys.length k6] 32) = W6 at *
            generalize w6.heap.size = b6 at *
            refine (cG _ G8.out).mono ?_
            rintro e w7 ⟨a7, k7, rfl, o7, z7, g7⟩
            have gZ := World.grownBy_alloc w7 (.cells #[.int .i64 p, .string (bs u), .slice a7 ys.length k7] 32) none
            have G10 := Lib.hid (grownBy_trans G8.out (grownBy_trans g7 gZ))
            obtain ⟨x0, x1, x2⟩ := (HB7.out.grown G10.out).three
            obtain ⟨y0, y1, y2⟩ := (HC.out.grown G10.out).three
            clear g7 gZ cG o7 z7 G8
            go_wp2_with fail
            generalize w7.alloc (.cells #[.int .i64 p, .string (bs u), .slice a7 ys.length k7] 32) = W7 at *
            generalize w7.heap.size = b7 at *
            refine (cS _ G10.out).mono ?_
            rintro e w8 ⟨rfl, g8⟩
            have gE := World.grownBy_alloc w8 (.cells #[] 9) none
            have G11 := Lib.hid (grownBy_trans G10.out g8)
            have G12 := Lib.hid (grownBy_trans G11.out gE)
            have hR0 : (w8.alloc (.cells #[] 9)).ownsRow w8.heap.size 9 1 (.slice (some ⟨w8.heap.size, 0, none⟩) 0 0) 0 [] := World.ownsRow_lit (e := 9) (size := 1) (base := w8.heap.size) w8 #[] 0 (Nat.le_refl _) (by unfold maxLen; omega) rfl
            have hnA := strs_news (TA.out.grown G12.out)
            have s8 : w8.heap.size ≤ (w8.alloc (.cells #[] 9)).heap.size := gE.size
            clear g8 gE cS x0 x1 x2 y0 y1 y2
            have hm1 : 0 + A1.length ≤ 1000000 := by have := HM.out; omega
            go_wp2_with (at_builtin; refine append_texts _ (by rfl) _ _ rfl w8.heap.size _ _ _ rfl hR0 g3 k3 A1 rfl hnA hm1 s8 ?_)
            intro v1' w9 hown1 hgrow1
            have hR1 : w9.ownsRow w8.heap.size 9 1 v1' A1.length (A1.map Value.string) := by
              first
                | exact hown1
                | (rw [Nat.zero_add, List.nil_append] at hown1; exact hown1)
            have TB9 := Lib.hid (StrsAt.row (TB.out.grown G11.out) (Nat.le_refl _) (TB.out.grown G12.out) hR0 hgrow1)
            have T79 := Lib.hid (StrsAt.row (T7.out.grown G11.out) (Nat.le_refl _) (T7.out.grown G12.out) hR0 hgrow1)
            have G13 := Lib.hid (grTx_row G12.out hR0 G11.out.size hgrow1)
            have hnB := strs_news TB9.out
            have s9 : w8.heap.size ≤ w9.heap.size := Nat.le_trans s8 hgrow1.size
            clear hown1 hgrow1 hnA hR0
            have hm2 : A1.length + A2.length ≤ 1000000 := by have := HM.out; omega
            go_wp2_with (at_builtin; refine append_texts _ (by rfl) _ _ rfl w8.heap.size _ _ _ rfl hR1 g4 k4 A2 rfl hnB hm2 s9 ?_)
            intro v2' w10 hown2 hgrow2
            have T710 := Lib.hid (StrsAt.row (T7.out.grown G11.out) (Nat.le_refl _) T79.out hR1 hgrow2)
            have G14 := Lib.hid (grTx_row G13.out hR1 G11.out.size hgrow2)
            have hR2 : w10.ownsRow w8.heap.size 9 1 v2' A.length (A.map Value.string) := by
              rw [← List.map_append, HAP.out, HM.out] at hown2
              exact hown2
            obtain ⟨bz, cz, rfl, _⟩ := rowT_shape hR2
            have cU := sameTx_any bz b1 cz n1 A w10 (OwnT.at hR2) T710.out
            clear hown2 hgrow2 hnB hR1 hR2
            go_wp2_with fail
            refine cU.mono ?_
            rintro e w11 ⟨rfl, g11⟩
            go_wp2_with fail
            go_ret
            exact ⟨rfl, below_of (grownBy_trans G1.out (grownBy_trans G7.out (grownBy_trans G14.out g11)))⟩

end Go.Proofs.YtlnffpofbfigaaaGreatDoor

/-
  The walk of FnExactDeskLine.
-/
namespace Go.Proofs.YtlnffpofbfigaaaGreatDoor
open Go.RowKit

theorem lineR_long {d : Dk} {l : List UInt8} {p : Int} {u : List UInt8} {ys : List Ld} {A : ByteArray} (h : lineR d l = (((p, u), ys), A)) : ys.length ≤ d.2.length + 9 := by
  unfold lineR at h
  split at h
  · cases hq : rdD l with
    | none => rw [hq] at h; cases h; exact Nat.le_add_right _ _
    | some D =>
      rw [hq] at h
      obtain ⟨⟨⟨⟨p', u'⟩, ys'⟩, ok⟩, hR⟩ : ∃ R, R = doR d D := ⟨_, rfl⟩
      simp only [← hR] at h
      cases h
      exact doR_long hR.symm
  · cases h; simp
theorem runZ_line {r : Dk × ByteArray} {m : Int} {s : List UInt8} {xs : List Ld} {A : ByteArray} {w w' : World} {e : Ending} (hr : r = (((m, s), xs), A)) (h : LinePost r w e w') : RunZ m s xs (.string A) w e w' := by
  subst hr
  obtain ⟨a, cap, rfl, ho, h0, hg⟩ := h
  exact ⟨a, cap, rfl, ho, h0, hg⟩

set_option maxRecDepth 100000 in
set_option maxHeartbeats 16000000 in
theorem FnExactDeskLine_walk (a0 : Int) (s0 : ByteArray) (r0 : Option Addr) (cap0 : Nat) (xs0 : List Ld) (s1 : ByteArray) (w : World) (z0 : s0.size ≤ maxLen) (l0 : LdsAt w r0 xs0) (_k0 : r0 = none → cap0 = 0) (q0 : ∀ x ∈ xs0, x.2.length ≤ maxLen) (_z1 : s1.size ≤ maxLen) (hT : WdAt w ∧ ErAt w) :
    Calls Tryz.prog 6 #[.agg #[.int .i64 a0, .string s0, .slice r0 xs0.length cap0], .string s1] w fun e w' => e = .returned (.bool true) ∧ Below w.heap.size w w' := by
  have g0 : w.grownBy (w.alloc (.cells #[.int .i64 a0, .string s0, .slice r0 xs0.length cap0] 57)) none := World.grownBy_alloc w _ none
  by_cases hbig : (1048576 : Int) < (s1.size : Int)
  · clear z0 l0 q0 hT _z1
    go_enter Tryz.func6, Tryz.ntmps6
    go_wp2_with fail
    go_ret
    exact ⟨rfl, below_of g0⟩
  have HB := Lib.hid (CellsAt.new w #[.int .i64 a0, .string s0, .slice r0 xs0.length cap0] 57)
  have cz := szDesk_any a0 s0 r0 cap0 xs0 (w.alloc (.cells #[.int .i64 a0, .string s0, .slice r0 xs0.length cap0] 57)) (l0.grown g0) z0 q0
  have HL := Lib.hid (l0.grown g0)
  have HT := Lib.hid hT
  have G0 := Lib.hid g0
  clear l0 g0 hT
  go_enter Tryz.func6, Tryz.ntmps6
  go_wp2_with fail
  refine cz.mono ?_
  rintro e w2 ⟨v, rfl, hv, hg1⟩
  clear cz
  by_cases hneg : v < 0
  · clear hv
    go_wp2_with fail
    go_ret
    exact ⟨rfl, below_of (grownBy_trans G0.out hg1)⟩
  have hx : xs0.length ≤ 1048576 := by
    rcases hv with q | q
    · exact absurd q hneg
    · omega
  clear hv
  have HB2 := Lib.hid (HB.out.grown hg1)
  have HL2 := Lib.hid (HL.out.grown hg1)
  have G2 := Lib.hid (grownBy_trans G0.out hg1)
  clear hg1 HB HL G0
  have HTW : Hid (∀ W, w2.grownBy W none → WdAt W ∧ ErAt W) := Lib.hid fun W g => ⟨HT.out.1.grown (grownBy_trans G2.out g), HT.out.2.grown (grownBy_trans G2.out g)⟩
  obtain ⟨b, hb⟩ : ∃ b, b = w.heap.size := ⟨_, rfl⟩
  rw [← hb] at HB2 ⊢
  obtain ⟨⟨⟨⟨p, u⟩, ys⟩, A⟩, hR⟩ : ∃ R, R = lineR ((a0, bl s0), xs0) (bl s1) := ⟨_, rfl⟩
  have hyl : ys.length ≤ 10000000 := by have := lineR_long hR.symm; change ys.length ≤ xs0.length + 9 at this; omega
  have hsl : (bl s1).length ≤ 2097152 := by rw [← bl_size]; omega
  have ct : ∀ W, LdsAt W r0 xs0 → Calls Tryz.prog 29 #[.agg #[.int .i64 a0, .string s0, .slice r0 xs0.length cap0]] W fun e w' => ∃ a' cap', e = .returned (.agg #[.int .i64 a0, .string s0, .slice a' xs0.length cap']) ∧ Own2 w' W.heap.size a' cap' xs0 ∧ W.grownBy w' none := fun W h => toDesk_any a0 s0 r0 cap0 xs0 (by omega) W h
  have cd : ∀ W (a' : Option Addr) (cap' : Nat), LdsAt W a' xs0 → (a' = none → cap' = 0) → Calls Tryz.prog 21 #[.agg #[.int .i64 a0, .string s0, .slice a' xs0.length cap'], .string s1] W (RunZ p u ys (.string A) W) := fun W a' cap' h h0 => by
    have := (sdl_any ((a0, bl s0), xs0) (bl s1) a' cap' W hsl h h0).mono fun _ _ q => runZ_line hR.symm q
    unfold dkV at this
    rw [bs_bl, bs_bl] at this
    exact this
  have ci : ∀ W (a' : Option Addr) (cap' : Nat), LdsAt W a' xs0 → (a' = none → cap' = 0) → w2.grownBy W none → Calls Tryz.prog 14 #[.agg #[.int .i64 a0, .string s0, .slice a' xs0.length cap'], .string s1] W (RunZ p u ys (.string A) W) := fun W a' cap' h h0 hg => by
    have := (idl_any ((a0, bl s0), xs0) (bl s1) a' cap' W hsl h h0 (HTW.out W hg)).mono fun _ _ q => runZ_line hR.symm q
    unfold dkV at this
    rw [bs_bl, bs_bl] at this
    exact this
  have hvv : (A.toList != A.toList) = false := by simp
  clear hb hR z0 q0 hsl _z1
  obtain ⟨d0, d1, d2⟩ := HB2.out.three
  go_wp2_with fail
  refine (ct _ HL2.out).mono ?_
  rintro e wa ⟨a2, c2, rfl, o2, ga⟩
  clear d0 d1 d2
  go_wp2_with fail
  refine (cd _ a2 c2 o2.at o2.bare).mono ?_
  rintro e w3' ⟨aw, cw, rfl, ow, _, gd⟩
  have gg := grownBy_trans ga gd
  have gV := World.grownBy_alloc w3' (.cells #[.int .i64 p, .string (bs u), .slice aw ys.length cw] 32) none
  have HW := Lib.hid (CellsAt.new w3' #[.int .i64 p, .string (bs u), .slice aw ys.length cw] 32)
  have OW0 := Lib.hid ((ow.mono (base' := w2.heap.size) ga.size).kept gV)
  have G3 := Lib.hid (grownBy_trans gg gV)
  clear o2 ow ga gd gg gV cd
  obtain ⟨d0, d1, d2⟩ := (HB2.out.grown G3.out).three
  go_wp2_with fail
  generalize w3'.alloc (.cells #[.int .i64 p, .string (bs u), .slice aw ys.length cw] 32) = w3 at *
  generalize w3'.heap.size = bw at *
  refine (ct _ (HL2.out.grown G3.out)).mono ?_
  rintro e w4 ⟨ax, cx, rfl, ox, hg4⟩
  have gX := World.grownBy_alloc w4 (.cells #[.int .i64 a0, .string s0, .slice ax xs0.length cx] 32) none
  have HX := Lib.hid (CellsAt.new w4 #[.int .i64 a0, .string s0, .slice ax xs0.length cx] 32)
  have OX := Lib.hid (ox.kept gX)
  have G4 := Lib.hid (grownBy_trans G3.out (grownBy_trans hg4 gX))
  have HWx := Lib.hid (HW.out.grown (grownBy_trans hg4 gX))
  have OWx := Lib.hid (OW0.out.kept (grownBy_trans hg4 gX))
  have hs34 : w3.heap.size ≤ (w4.alloc (.cells #[.int .i64 a0, .string s0, .slice ax xs0.length cx] 32)).heap.size := (grownBy_trans hg4 gX).size
  clear ox hg4 d0 d1 d2 gX
  obtain ⟨x0, x1, x2⟩ := HX.out.three
  go_wp2_with fail
  generalize w4.alloc (.cells #[.int .i64 a0, .string s0, .slice ax xs0.length cx] 32) = w5 at *
  generalize w4.heap.size = bx at *
  refine (ci _ ax cx OX.out.at OX.out.bare G4.out).mono ?_
  rintro e w6' ⟨ag, cg, rfl, og, _, hg6'⟩
  have gV := World.grownBy_alloc w6' (.cells #[.int .i64 p, .string (bs u), .slice ag ys.length cg] 32) none
  have hg6 := grownBy_trans hg6' gV
  have hG := CellsAt.new w6' #[.int .i64 p, .string (bs u), .slice ag ys.length cg] 32
  have hOG := og.kept gV
  have G6 := Lib.hid (grownBy_trans G4.out hg6)
  have A0 : Hid (StA w2 (w6'.alloc (.cells #[.int .i64 p, .string (bs u), .slice ag ys.length cg] 32)) bw bx w6'.heap.size w3.heap.size w5.heap.size p u ys a0 s0 xs0 aw ax ag cw cx cg) := ⟨HWx.out.grown hg6, HX.out.grown hg6, hG, OWx.out.kept hg6, (OX.out.kept hg6).l, hOG, OW0.out.upto, OX.out.l.upto, G3.out.size, hs34, G6.out⟩
  clear hG hOG hg6 hg6' gV og HX OX HW HWx OWx OW0 x0 x1 x2
  obtain ⟨x0, x1, x2⟩ := A0.out.v2.three
  obtain ⟨y0, y1, y2⟩ := A0.out.v0.three
  go_wp2_with fail
  generalize w6'.alloc (.cells #[.int .i64 p, .string (bs u), .slice ag ys.length cg] 32) = w6 at *
  generalize w6'.heap.size = bg at *
  refine (eqDesk_yes p (bs u) ag aw cg cw ys w6 A0.out.o2.at A0.out.o0.at).mono ?_
  rintro e w7 ⟨rfl, hg7⟩
  have A1 := Lib.hid (A0.out.grown hg7)
  clear hg7 x0 x1 x2 y0 y1 y2 A0
  go_wp2_with fail
  have KS : Hid (∀ w', w7.grownBy w' none → w'.cell? ⟨bx, 0, none⟩ = some (.int .i64 a0) ∧ w'.cell? ⟨bx, 1, none⟩ = some (.string s0) ∧ w'.cell? ⟨bx, 2, none⟩ = some (.slice ax xs0.length cx) ∧ w'.cell? ⟨b, 0, none⟩ = some (.int .i64 a0) ∧ w'.cell? ⟨b, 1, none⟩ = some (.string s0) ∧ w'.cell? ⟨b, 2, none⟩ = some (.slice r0 xs0.length cap0) ∧ w7.grownBy w' none) := fun w' g => ⟨(A1.out.v1.grown g).three.1, (A1.out.v1.grown g).three.2.1, (A1.out.v1.grown g).three.2.2, (HB2.out.grown (grownBy_trans A1.out.gr g)).three.1, (HB2.out.grown (grownBy_trans A1.out.gr g)).three.2.1, (HB2.out.grown (grownBy_trans A1.out.gr g)).three.2.2, g⟩
  go_region_held3 (fun w' => w'.cell? ⟨bx, 0, none⟩ = some (.int .i64 a0) ∧ w'.cell? ⟨bx, 1, none⟩ = some (.string s0) ∧ w'.cell? ⟨bx, 2, none⟩ = some (.slice ax xs0.length cx) ∧ w'.cell? ⟨b, 0, none⟩ = some (.int .i64 a0) ∧ w'.cell? ⟨b, 1, none⟩ = some (.string s0) ∧ w'.cell? ⟨b, 2, none⟩ = some (.slice r0 xs0.length cap0) ∧ w7.grownBy w' none) (first | with_reducible exact KS.out _ GP.out | exact KS.out _ (grownBy_drew (grownBy_refl _ none))) (first | (go_at_call 29; (with_reducible refine (ct _ (HL2.out.grown (grownBy_trans A1.out.gr (lastS7' (by assumption))))).mono ?_); rintro e wa ⟨a2, c2, rfl, o2, ga⟩; have GP := Lib.hid (grownBy_trans (lastS7' (by assumption)) ga); have OO := Lib.hid o2.at) | (go_at_call 30; (with_reducible refine (eqDesk_yes a0 s0 ax a2 cx c2 xs0 _ (A1.out.o1.at.grown (lastS7' (by assumption))) OO.out).mono ?_); rintro e wd ⟨rfl, gd⟩; have GP := Lib.hid (grownBy_trans (lastS7' (by assumption)) gd)))
  have A4 := Lib.hid (A1.out.grown GP.out)
  clear A1 KS
  obtain ⟨x0, x1, x2⟩ := A4.out.v1.three
  obtain ⟨K1, hK1⟩ : ∃ K : Int, K = ((1 + 2 * xs0.length : Nat) : Int) := ⟨_, rfl⟩
  obtain ⟨K2, hK2⟩ : ∃ K : Int, K = ((1 + 2 * ys.length : Nat) : Int) := ⟨_, rfl⟩
  have cm1 : ∀ W, OwnL W w3.heap.size ax xs0 → Calls Tryz.prog 31 #[.agg #[.int .i64 a0, .string s0, .slice ax xs0.length cx], .int .i64 1] W fun e w' => e = .returned (.int .i64 K1) ∧ MarkedD ax 1 xs0.length W w' := fun W hW => by
    rw [hK1]; exact markDk_any a0 s0 1 w3.heap.size cx ax xs0 (by omega) (by omega) W hW
  have cm2 : ∀ W, OwnL W w5.heap.size ag ys → Calls Tryz.prog 31 #[.agg #[.int .i64 p, .string (bs u), .slice ag ys.length cg], .int .i64 1] W fun e w' => e = .returned (.int .i64 K2) ∧ MarkedD ag 1 ys.length W w' := fun W hW => by
    rw [hK2]; exact markDk_any p (bs u) 1 w5.heap.size cg ag ys (by omega) hyl W hW
  have ch2 : ∀ W, LdsAt W ag (mkRow 1 ys.length) → Calls Tryz.prog 32 #[.agg #[.int .i64 p, .string (bs u), .slice ag ys.length cg], .int .i64 1] W fun e w' => e = .returned (.int .i64 K2) ∧ W.grownBy w' none := fun W hW => by
    rw [hK2]; exact heldDk_any p (bs u) 1 ys.length cg ag (by omega) hyl W hW
  have hn1 : ¬ (K1 < 0) := by omega
  have hn2 : ¬ (K2 < 0) := by omega
  have hkk : (K2 != K2) = false := by simp
  clear hK1 hK2 hyl hx
  go_wp2_with fail
  refine (cm1 _ A4.out.o1).mono ?_
  rintro e w9 ⟨rfl, hM1⟩
  have B1 := Lib.hid (A4.out.mark hM1)
  clear hM1 A4 cm1 x0 x1 x2
  obtain ⟨x0, x1, x2⟩ := B1.out.v2.three
  obtain ⟨y0, y1, y2⟩ := B1.out.v0.three
  go_wp2_with fail
  refine (eqDesk_yes p (bs u) ag aw cg cw ys _ B1.out.o2.at B1.out.o0.at).mono ?_
  rintro e w10 ⟨rfl, hg10⟩
  have B2 := Lib.hid (B1.out.grown hg10)
  clear hg10 x0 x1 x2 y0 y1 y2 B1
  obtain ⟨x0, x1, x2⟩ := B2.out.v2.three
  go_wp2_with fail
  refine (cm2 _ B2.out.o2).mono ?_
  rintro e w11 ⟨rfl, hM2⟩
  have C0 := Lib.hid (B2.out.mark hM2)
  clear hM2 B2 cm2 x0 x1 x2
  obtain ⟨x0, x1, x2⟩ := C0.out.v2.three
  go_wp2_with fail
  refine (ch2 _ C0.out.m2).mono ?_
  rintro e w12 ⟨rfl, hg12⟩
  have C1 := Lib.hid (C0.out.grown hg12)
  clear hg12 C0 x0 x1 x2
  obtain ⟨d0, d1, d2⟩ := (HB2.out.grown C1.out.gr).three
  go_wp2_with fail
  refine (ct _ (HL2.out.grown C1.out.gr)).mono ?_
  rintro e wa2 ⟨a2, c2, rfl, o2, ga⟩
  have C2 := Lib.hid (C1.out.grown ga)
  clear d0 d1 d2 ga C1
  go_wp2_with fail
  refine (ci _ a2 c2 o2.at o2.bare C2.out.gr).mono ?_
  rintro e wc2 ⟨ah, ck, rfl, oh, _, gd⟩
  have gV := World.grownBy_alloc wc2 (.cells #[.int .i64 p, .string (bs u), .slice ah ys.length ck] 32) none
  have C4 := Lib.hid (C2.out.grown (grownBy_trans gd gV))
  have HOH := Lib.hid (oh.kept gV).at
  obtain ⟨x0, x1, x2⟩ := (CellsAt.new wc2 #[.int .i64 p, .string (bs u), .slice ah ys.length ck] 32).three
  obtain ⟨y0, y1, y2⟩ := C4.out.v0.three
  clear o2 gd gV oh C2
  go_wp2_with fail
  refine (eqDesk_yes p (bs u) ah aw ck cw ys _ HOH.out C4.out.o0.at).mono ?_
  rintro e w14 ⟨rfl, hg14⟩
  have C5 := Lib.hid (C4.out.grown hg14)
  clear hg14 x0 x1 x2 y0 y1 y2 C4
  obtain ⟨x0, x1, x2⟩ := C5.out.v2.three
  go_wp2_with fail
  refine (ch2 _ C5.out.m2).mono ?_
  rintro e w15 ⟨rfl, hg15⟩
  go_wp2_with fail
  go_ret
  exact ⟨rfl, below_of (grownBy_trans G2.out (C5.out.grown hg15).gr)⟩

end Go.Proofs.YtlnffpofbfigaaaGreatDoor

/-
  Rows of texts beside desks while the exact law of DeskSay marks them.
-/
namespace Go.Proofs.YtlnffpofbfigaaaGreatDoor
open Go.RowKit

/-- A copy of texts in memory of the call's own. -/
def CpTxPost (ss : List ByteArray) (w : World) (e : Ending) (w' : World) : Prop := ∃ (g cap : Nat), e = .returned (.slice (some ⟨g, 0, none⟩) ss.length cap) ∧ OwnT w' w.heap.size (some ⟨g, 0, none⟩) cap ss ∧ w.grownBy w' none

set_option maxHeartbeats 1000000 in
theorem toTx_any (a : Option Addr) (cap : Nat) (ss : List ByteArray) (hn : ss.length ≤ 100000000) (w : World) (h : StrsAt w a ss) :
    Calls Tryz.prog 34 #[.slice a ss.length cap] w (CpTxPost ss w) := by
  obtain ⟨i0, hi, hz0, hz1, hz2⟩ := info_parts infoStr
  have Hh := Lib.hid h
  clear h
  go_enter Tryz.func34, Tryz.ntmps34
  go_wp2_with (at_make; refine wpList_make_full _ rfl _ _ 49 rfl w.heap.size 9 i0 (.string nilS) 1 Tryz.underlying49 hi hz0 hz1 .i64 .i64 _ _ ss.length rfl rfl rfl rfl ?b2 ?b3 (Nat.le_refl _) ?_)
  case b2 => rw [hz2]; omega
  case b3 => unfold maxLen; omega
  intro w0 hown0 hgrow0
  go_wp2
  go_loopw [4] (fun i wr => CpyRel w.heap.size ss w i wr) (fun i _ => ss.length - (intOf i).toNat)
  case atStart => exact ⟨0, _, by omega, rfl, hown0, fun j hj => absurd hj (by omega), hgrow0⟩
  case round =>
    obtain ⟨k, xs, hk, rfl, hown, hxs, hgr⟩ := hrel
    by_cases hlt : k < ss.length
    · have hx2 := Hh.out.grown hgr
      rcases hx2.2 with h0 | ⟨bx, ox, rfl, hbx, hcx⟩
      · rw [h0] at hlt; simp at hlt
      have hc1 := hcx k hlt
      have hfr := World.ownsRow.frozenAt hown k
      have hce := World.ownsRow.cellAt hown k (by omega)
      have hxl := hown.1
      rw [List.getElem?_eq_getElem (by omega)] at hce
      obtain ⟨u, hce⟩ : ∃ u, wr.cell? ⟨w.heap.size, k, none⟩ = some u := ⟨_, hce⟩
      have hst := Lib.hid (World.ownsRow.stored hown k (.string (ss.getD k nilS)))
      have hg2 := Lib.hid (grownBy_row hgr hown (Nat.le_refl _) hst.out.2)
      have hxs2 : Hid (∀ j, j < k + 1 → (xs.set k (.string (ss.getD k nilS)))[j]? = some (.string (ss.getD j nilS))) := fun j hj => by
        by_cases e : j = k
        · subst e; rw [List.getElem?_set_self (by omega)]
        · rw [List.getElem?_set_ne (by omega)]; exact hxs j (by omega)
      clear hown hgr hx2 hcx hbx hxs
      generalize ss.getD k nilS = q at *
      go_wp2
      go_roundw
      case rel => exact ⟨k + 1, _, by omega, by go_num, hst.out.1, hxs2.out, hg2.out⟩
      case measure => simp [intOf]; omega
    · obtain rfl : k = ss.length := by omega
      have hvv : xs = ss.map Value.string := by
        refine List.ext_getElem? fun j => ?_
        by_cases hj : j < ss.length
        · rw [hxs j hj, List.getElem?_map, List.getD_eq_getElem?_getD, List.getElem?_eq_getElem hj]
          rfl
        · rw [List.getElem?_eq_none (by have := hown.1; omega), List.getElem?_eq_none (by rw [List.length_map]; omega)]
      have hs : Hid (OwnT wr w.heap.size (some ⟨w.heap.size, 0, none⟩) ss.length ss) := Lib.hid (by unfold OwnT; rw [← hvv]; exact hown)
      have Hg := Lib.hid hgr
      clear hown hxs hgr hvv
      go_wp2
      go_ret
      exact ⟨_, _, rfl, hs.out, Hg.out⟩

/-- The row that a mark of texts writes. -/
def RowT (row : Option Nat) (W : World) (base : Nat) (a : Option Addr) : Prop := StrRow W row ∧ ∀ g, row = some g → base ≤ g ∧ ∃ x, a = some x ∧ x.block = g
theorem OwnT.rowAt {W W' : World} {base cap k : Nat} {a : Option Addr} {L : List ByteArray} (h : OwnT W base a cap L) (hM : MarkedT a k L.length W W') : ∃ row, RowT row W base a ∧ W.grownBy W' row := by
  obtain ⟨_, row, hr, hg⟩ := hM
  refine ⟨row, ⟨fun g e => ?_, fun g e => ?_⟩, hg⟩
  · obtain ⟨hn, x, hx, hxg⟩ := hr g e
    rcases h.way with ⟨rfl, rfl⟩ | ⟨q, rfl⟩
    · cases hx
    · cases hx
      subst hxg
      exact strRow_own h q rfl
  · obtain ⟨hn, x, hx, hxg⟩ := hr g e
    rcases h.way with ⟨rfl, rfl⟩ | ⟨q, rfl⟩
    · cases hx
    · cases hx
      subst hxg
      exact ⟨(World.ownsRow.lt h q rfl).1, _, rfl, rfl⟩
theorem OwnT.upto {W : World} {base cap : Nat} {a : Option Addr} {L : List ByteArray} (h : OwnT W base a cap L) : ∀ x, a = some x → x.block < W.heap.size := by
  intro x hx
  rcases h.way with ⟨rfl, rfl⟩ | ⟨q, rfl⟩
  · cases hx
  · cases hx
    obtain ⟨cur, hc⟩ := strRow_own h q rfl
    exact (Array.getElem?_eq_some_iff.1 hc).1
/-- A row of texts beside another one that is marked. -/
theorem OwnT.beside {W W' : World} {base base2 cap : Nat} {a b : Option Addr} {L : List ByteArray} {row : Option Nat} (o : OwnT W base2 b cap L) (hr : RowT row W base a) (hg : W.grownBy W' row) (hap : (∀ x, b = some x → x.block < base) ∨ (∀ x, a = some x → x.block < base2)) : OwnT W' base2 b cap L := by
  rcases o.way with ⟨rfl, rfl⟩ | ⟨q, rfl⟩
  · exact World.ownsRow.kept o hg (.inl rfl)
  · refine World.ownsRow.kept o hg (.inr fun e => ?_)
    obtain ⟨h1, x, hx, hxg⟩ := hr.2 q e.symm
    have h2 := World.ownsRow.lt o q rfl
    rcases hap with hap | hap
    · have := hap _ rfl
      simp at this
      omega
    · have := hap _ hx
      omega
/-- A row of texts beside a row of pairs that is marked. -/
theorem OwnT.mark {w w' : World} {base base2 cap : Nat} {a b : Option Addr} {xs : List Ld} {L : List ByteArray} {row : Option Nat} (o : OwnT w base2 b cap L) (h : OwnL w base a xs) (hr : RowAt row a xs.length) (hg : w.grownBy w' row) : OwnT w' base2 b cap L := by
  rcases o.way with ⟨rfl, rfl⟩ | ⟨q, rfl⟩
  · exact World.ownsRow.kept o hg (.inl rfl)
  · refine World.ownsRow.kept o hg (.inr fun e => ?_)
    obtain ⟨_, _, cur, hc⟩ := h.row hr e.symm
    obtain ⟨cur2, h2⟩ := strRow_own o q rfl
    rw [hc] at h2
    exact absurd h2 (by simp)
theorem grown_strs {w0 w w' : World} {base : Nat} {a : Option Addr} {row : Option Nat} (g : w0.grownBy w none) (hb : w0.heap.size ≤ base) (hr : RowT row w base a) (hg : w.grownBy w' row) : w0.grownBy w' none :=
  ⟨hg.os.trans g.os, hg.tape.trans g.tape, hg.output.trans g.output, Nat.le_trans g.size hg.size, fun k hk hn => (hg.block k (Nat.lt_of_lt_of_le hk g.size) fun e => by
    have := (hr.2 k e.symm).1
    omega).trans (g.block k hk hn)⟩
theorem StB.strs {w0 W W' : World} {b0 b2 s1 s2 base : Nat} {p : Int} {u : List UInt8} {ys : List Ld} {a0 a2 a : Option Addr} {c0 c2 : Nat} {row : Option Nat} (h : StB w0 W b0 b2 s1 s2 p u ys a0 a2 c0 c2) (hb : w0.heap.size ≤ base) (hr : RowT row W base a) (hg : W.grownBy W' row) : StB w0 W' b0 b2 s1 s2 p u ys a0 a2 c0 c2 :=
  ⟨h.v0.sr hr.1 hg, h.v2.sr hr.1 hg, h.o0.sr hr.1 hg, h.o2.sr hr.1 hg, h.u0, h.h1, h.h2, grown_strs h.gr hb hr hg⟩
/-- A row of pairs and one of texts lie in two blocks. -/
theorem own_apartT {W : World} {base base2 cap : Nat} {a b : Option Addr} {ys : List Ld} {L : List ByteArray} (o : OwnL W base a ys) (t : OwnT W base2 b cap L) : ys = [] ∨ ∀ x y, a = some x → b = some y → x.block ≠ y.block := by
  rcases o.2 with h | ⟨g, off, cur, ha, hb, hh, hc⟩
  · exact .inl h
  · refine .inr fun x y hx hy e => ?_
    rw [ha] at hx
    cases hx
    rcases t.way with ⟨rfl, rfl⟩ | ⟨q, rfl⟩
    · cases hy
    · cases hy
      simp at e
      subst e
      obtain ⟨cur2, h2⟩ := strRow_own t g rfl
      rw [hh] at h2
      exact absurd h2 (by simp)
theorem StC.strs {w0 W W' : World} {b0 b2 k base : Nat} {p : Int} {u : List UInt8} {ys : List Ld} {a0 a2 a : Option Addr} {c0 c2 : Nat} {row : Option Nat} (h : StC w0 W b0 b2 k p u ys a0 a2 c0 c2) (hap : ys = [] ∨ ∀ x y, a2 = some x → a = some y → x.block ≠ y.block) (hb : w0.heap.size ≤ base) (hr : RowT row W base a) (hg : W.grownBy W' row) : StC w0 W' b0 b2 k p u ys a0 a2 c0 c2 := by
  refine ⟨h.v0.sr hr.1 hg, h.v2.sr hr.1 hg, h.o0.sr hr.1 hg, ?_, grown_strs h.gr hb hr hg⟩
  refine ⟨h.m2.1, ?_⟩
  rcases hap with hap | hap
  · left; rw [hap]; rfl
  · rcases h.m2.2 with hm | ⟨g, off, ha, hg2, hc⟩
    · exact .inl hm
    · have hne : some g ≠ row := fun e => by
        obtain ⟨_, y, hy, hyg⟩ := hr.2 g e.symm
        exact hap _ y ha hy hyg.symm
      refine .inr ⟨g, off, ha, Nat.lt_of_lt_of_le hg2 hg.size, fun i hi => ?_⟩
      have := hc i hi
      exact ⟨(World.cell?_of_block (w := W) (hg.block g hg2 hne)).trans this.1, (World.cell?_of_block (w := W) (hg.block g hg2 hne)).trans this.2⟩
theorem talk_longs {d : Dk} {L : List ByteArray} {p : Int} {u : List UInt8} {ys : List Ld} {A : List ByteArray} (h : talkR d L = (((p, u), ys), A)) : ys.length ≤ 8 ∧ A.length ≤ 40 := by
  unfold talkR at h
  split at h
  · rename_i hd
    have := (dkB_of (nextD_ok L hd.1)).2.2
    have h2 := saysD_len L d
    cases hn : nextD d L with
    | mk n1 n2 =>
      rw [hn] at h this
      cases h
      exact ⟨this, by rw [h2]; exact hd.2⟩
  · cases h; simp

end Go.Proofs.YtlnffpofbfigaaaGreatDoor

/-
  The walk of FnExactDeskSay.
-/
namespace Go.Proofs.YtlnffpofbfigaaaGreatDoor
open Go.RowKit

theorem strsIn {w : World} {a : Option Addr} {len cap : Nat} {zs : List ByteArray} (h : IsStrs w a len cap zs) : ∃ ss : List ByteArray, ss.length = len ∧ StrsAt w a ss ∧ ∀ s ∈ ss, s.size ≤ maxLen := by
  by_cases h0 : len = 0
  · subst h0
    exact ⟨[], rfl, StrsAt.nil _ _, by simp⟩
  · have hp : ∀ x, a = some x → x.spot = none := by
      rintro ⟨b, off, spot⟩ rfl
      rcases h with ⟨h, _⟩ | ⟨y, hy, h1, h2, h3, h4, _⟩
      · cases h
      · cases hy
        simpa [Addr.add] using World.cell?_spot (h4 0 (by omega))
    obtain ⟨h1, h2, h3⟩ := h.at hp
    exact ⟨_, h2, h1, h3⟩
/-- What a call of DeskSay answers, cell by cell; its rows are the call's own. -/
def SayZ (p : Int) (u : List UInt8) (ys : List Ld) (A : List ByteArray) (w : World) (e : Ending) (w' : World) : Prop := ∃ (a : Option Addr) (cap : Nat) (b : Option Addr) (capb : Nat), e = .returned (.tuple #[.agg #[.int .i64 p, .string (bs u), .slice a ys.length cap], .slice b A.length capb]) ∧ OwnL w' w.heap.size a ys ∧ (a = none → cap = 0) ∧ OwnT w' w.heap.size b capb A ∧ w.grownBy w' none
theorem sayZ_of {r : Dk × List ByteArray} {p : Int} {u : List UInt8} {ys : List Ld} {A : List ByteArray} {w w' : World} {e : Ending} (hr : r = (((p, u), ys), A)) (h : SayPost r w e w') : SayZ p u ys A w e w' := by
  subst hr
  obtain ⟨a, cap, b, capb, rfl, ho, h0, ht, _, hg⟩ := h
  exact ⟨a, cap, b, capb, rfl, ho, h0, ht, hg⟩

set_option maxRecDepth 100000 in
set_option maxHeartbeats 16000000 in
theorem exactSay_walk (a0 : Int) (s0 : ByteArray) (r0 : Option Addr) (cap0 : Nat) (xs0 : List Ld) (r1 : Option Addr) (cap1 : Nat) (ss : List ByteArray) (w : World) (z0 : s0.size ≤ maxLen) (l0 : LdsAt w r0 xs0) (_k0 : r0 = none → cap0 = 0) (q0 : ∀ x ∈ xs0, x.2.length ≤ maxLen) (l1 : StrsAt w r1 ss) (q1 : ∀ s ∈ ss, s.size ≤ maxLen) (hT : WdAt w ∧ ErAt w) :
    Calls Tryz.prog 7 #[.agg #[.int .i64 a0, .string s0, .slice r0 xs0.length cap0], .slice r1 ss.length cap1] w fun e w' => e = .returned (.bool true) ∧ Below w.heap.size w w' := by
  have g0 : w.grownBy (w.alloc (.cells #[.int .i64 a0, .string s0, .slice r0 xs0.length cap0] 57)) none := World.grownBy_alloc w _ none
  have HB := Lib.hid (CellsAt.new w #[.int .i64 a0, .string s0, .slice r0 xs0.length cap0] 57)
  have cz := szDesk_any a0 s0 r0 cap0 xs0 (w.alloc (.cells #[.int .i64 a0, .string s0, .slice r0 xs0.length cap0] 57)) (l0.grown g0) z0 q0
  have HL := Lib.hid (l0.grown g0)
  have HQ := Lib.hid (l1.grown g0)
  have HQ1 := Lib.hid q1
  have HT := Lib.hid hT
  have G0 := Lib.hid g0
  clear l0 g0 hT l1 q1
  go_enter Tryz.func7, Tryz.ntmps7
  go_wp2_with fail
  refine cz.mono ?_
  rintro e w1 ⟨v, rfl, hv, hg1⟩
  clear cz
  by_cases hneg : v < 0
  · clear hv
    go_wp2_with fail
    go_ret
    exact ⟨rfl, below_of (grownBy_trans G0.out hg1)⟩
  have hx : xs0.length ≤ 1048576 := by
    rcases hv with q | q
    · exact absurd q hneg
    · omega
  have hvv : 0 ≤ v ∧ v ≤ 1048576 := by
    rcases hv with q | q
    · exact absurd q hneg
    · omega
  clear hv hneg
  have HB2 := Lib.hid (HB.out.grown hg1)
  have HL2 := Lib.hid (HL.out.grown hg1)
  have HD2 := Lib.hid (HQ.out.grown hg1)
  have G2 := Lib.hid (grownBy_trans G0.out hg1)
  clear hg1 HB HL G0 HQ
  have hvp : 0 ≤ v := hvv.1
  have cz2 := sz_any v ⟨hvv.1, by omega⟩ r1 cap1 ss HQ1.out w1 HD2.out
  go_wp2_with fail
  refine cz2.mono ?_
  rintro e w2 ⟨rfl, hww⟩
  cases hww
  have hsv := Lib.hid (show szV ss v < 0 ∨ ((ss.length : Int) ≤ v ∧ ∀ s ∈ ss, (s.size : Int) ≤ v) from by
    cases hq : szB ss v
    · left; rw [szV_f hq]; omega
    · exact .inr (szB_small hq))
  clear cz2
  generalize szV ss v = v2 at *
  by_cases hs : v2 < 0
  · go_wp2_with fail
    go_ret
    exact ⟨rfl, below_of G2.out⟩
  obtain ⟨hsl, hss⟩ := hsv.out.resolve_left hs
  have hsl2 : ss.length ≤ 1048576 := by omega
  have HS := Lib.hid (show ∀ s ∈ ss, s.size ≤ 2097152 from fun s h => by have := hss s h; omega)
  obtain ⟨w2, hw2⟩ : ∃ x, x = w1 := ⟨w1, rfl⟩
  rw [← hw2] at HB2 HL2 HD2 G2 ⊢
  clear hw2 hsl hss hsv HQ1 hvv hvp
  have HTW : Hid (∀ W, w2.grownBy W none → WdAt W ∧ ErAt W) := Lib.hid fun W g => ⟨HT.out.1.grown (grownBy_trans G2.out g), HT.out.2.grown (grownBy_trans G2.out g)⟩
  obtain ⟨b, hb⟩ : ∃ b, b = w.heap.size := ⟨_, rfl⟩
  rw [← hb] at HB2 ⊢
  obtain ⟨⟨⟨⟨p, u⟩, ys⟩, A⟩, hR⟩ : ∃ R, R = talkR ((a0, bl s0), xs0) ss := ⟨_, rfl⟩
  obtain ⟨hyl, hAl⟩ := talk_longs hR.symm
  have ct : ∀ W, LdsAt W r0 xs0 → Calls Tryz.prog 29 #[.agg #[.int .i64 a0, .string s0, .slice r0 xs0.length cap0]] W fun e w' => ∃ a' cap', e = .returned (.agg #[.int .i64 a0, .string s0, .slice a' xs0.length cap']) ∧ Own2 w' W.heap.size a' cap' xs0 ∧ W.grownBy w' none := fun W h => toDesk_any a0 s0 r0 cap0 xs0 (by omega) W h
  have cs : ∀ W, StrsAt W r1 ss → Calls Tryz.prog 34 #[.slice r1 ss.length cap1] W (CpTxPost ss W) := fun W h => toTx_any r1 cap1 ss (by omega) W h
  have cd : ∀ W (a' : Option Addr) (cap' : Nat) (b' : Option Addr) (capb : Nat), LdsAt W a' xs0 → (a' = none → cap' = 0) → StrsAt W b' ss → Calls Tryz.prog 26 #[.agg #[.int .i64 a0, .string s0, .slice a' xs0.length cap'], .slice b' ss.length capb] W (SayZ p u ys A W) := fun W a' cap' b' capb h h0 hb => by
    have := (sdsay_any ((a0, bl s0), xs0) ss a' b' cap' capb W h h0 hb HS.out).mono fun _ _ q => sayZ_of hR.symm q
    unfold dkV at this
    rw [bs_bl] at this
    exact this
  have ci : ∀ W (a' : Option Addr) (cap' : Nat) (b' : Option Addr) (capb : Nat), LdsAt W a' xs0 → (a' = none → cap' = 0) → StrsAt W b' ss → w2.grownBy W none → Calls Tryz.prog 25 #[.agg #[.int .i64 a0, .string s0, .slice a' xs0.length cap'], .slice b' ss.length capb] W (SayZ p u ys A W) := fun W a' cap' b' capb h h0 hb hg => by
    have := (idsay_any ((a0, bl s0), xs0) ss a' b' cap' capb W h h0 hb HS.out (HTW.out W hg)).mono fun _ _ q => sayZ_of hR.symm q
    unfold dkV at this
    rw [bs_bl] at this
    exact this
  clear hb hR z0 q0
  obtain ⟨d0, d1, d2⟩ := HB2.out.three
  go_wp2_with fail
  refine (ct _ HL2.out).mono ?_
  rintro e wa ⟨a2, c2, rfl, o2, ga⟩
  clear d0 d1 d2
  go_wp2_with fail
  refine (cs _ (HD2.out.grown ga)).mono ?_
  rintro e wb ⟨e2, k2, rfl, o3, gb⟩
  go_wp2_with fail
  refine (cd _ a2 c2 (some ⟨e2, 0, none⟩) k2 (o2.kept gb).at o2.bare o3.at).mono ?_
  rintro e w3' ⟨aw, cw, bbw, kw, rfl, ow, _, tw, gd⟩
  have gg := grownBy_trans ga (grownBy_trans gb gd)
  have gV := World.grownBy_alloc w3' (.cells #[.int .i64 p, .string (bs u), .slice aw ys.length cw] 32) none
  have HW := Lib.hid (CellsAt.new w3' #[.int .i64 p, .string (bs u), .slice aw ys.length cw] 32)
  have OW0 := Lib.hid ((ow.mono (base' := w2.heap.size) (grownBy_trans ga gb).size).kept gV)
  have TW0 := Lib.hid ((tw.mono (base' := w2.heap.size) (grownBy_trans ga gb).size).kept gV)
  have G3 := Lib.hid (grownBy_trans gg gV)
  clear o2 o3 ow tw ga gb gd gg gV cd
  obtain ⟨d0, d1, d2⟩ := (HB2.out.grown G3.out).three
  go_wp2_with fail
  generalize w3'.alloc (.cells #[.int .i64 p, .string (bs u), .slice aw ys.length cw] 32) = w3 at *
  generalize w3'.heap.size = bw at *
  refine (ct _ (HL2.out.grown G3.out)).mono ?_
  rintro e w4 ⟨ax, cx, rfl, ox, hg4⟩
  have gX := World.grownBy_alloc w4 (.cells #[.int .i64 a0, .string s0, .slice ax xs0.length cx] 32) none
  have HX := Lib.hid (CellsAt.new w4 #[.int .i64 a0, .string s0, .slice ax xs0.length cx] 32)
  have OX := Lib.hid (ox.kept gX)
  have G4 := Lib.hid (grownBy_trans G3.out (grownBy_trans hg4 gX))
  have HWx := Lib.hid (HW.out.grown (grownBy_trans hg4 gX))
  have OWx := Lib.hid (OW0.out.kept (grownBy_trans hg4 gX))
  have TWx := Lib.hid (TW0.out.kept (grownBy_trans hg4 gX))
  have hs34 : w3.heap.size ≤ (w4.alloc (.cells #[.int .i64 a0, .string s0, .slice ax xs0.length cx] 32)).heap.size := (grownBy_trans hg4 gX).size
  clear ox hg4 d0 d1 d2 gX
  go_wp2_with fail
  generalize w4.alloc (.cells #[.int .i64 a0, .string s0, .slice ax xs0.length cx] 32) = w5 at *
  generalize w4.heap.size = bx at *
  refine (cs _ (HD2.out.grown G4.out)).mono ?_
  rintro e w5b ⟨e1, k1, rfl, o1, hg5⟩
  have O1 := Lib.hid o1
  have G5 := Lib.hid (grownBy_trans G4.out hg5)
  obtain ⟨x0, x1, x2⟩ := (HX.out.grown hg5).three
  have s5 := hg5.size
  have HX5 := Lib.hid (HX.out.grown hg5)
  have OX5 := Lib.hid (OX.out.kept hg5)
  have HW5 := Lib.hid (HWx.out.grown hg5)
  have OW5 := Lib.hid (OWx.out.kept hg5)
  have TW5 := Lib.hid (TWx.out.kept hg5)
  have UW := Lib.hid (TWx.out.upto)
  have UX := Lib.hid (o1.upto)
  clear o1 hg5
  go_wp2_with fail
  refine (ci _ ax cx (some ⟨e1, 0, none⟩) k1 OX5.out.at OX5.out.bare O1.out.at G5.out).mono ?_
  rintro e w6' ⟨ag, cg, bbg, kg, rfl, og, _, tg, hg6'⟩
  have gV := World.grownBy_alloc w6' (.cells #[.int .i64 p, .string (bs u), .slice ag ys.length cg] 32) none
  have hg6 := grownBy_trans hg6' gV
  have hG := CellsAt.new w6' #[.int .i64 p, .string (bs u), .slice ag ys.length cg] 32
  have hOG := og.kept gV
  have G6 := Lib.hid (grownBy_trans G5.out hg6)
  have A0 : Hid (StA w2 (w6'.alloc (.cells #[.int .i64 p, .string (bs u), .slice ag ys.length cg] 32)) bw bx w6'.heap.size w3.heap.size w5b.heap.size p u ys a0 s0 xs0 aw ax ag cw cx cg) := ⟨HW5.out.grown hg6, HX5.out.grown hg6, hG, OW5.out.kept hg6, (OX5.out.kept hg6).l, hOG, OW0.out.upto, OX5.out.l.upto, G3.out.size, Nat.le_trans hs34 s5, G6.out⟩
  have TW6 := Lib.hid (TW5.out.kept hg6)
  have TX6 := Lib.hid (O1.out.kept hg6)
  have TG6 := Lib.hid (tg.kept gV)
  have hb5 : w2.heap.size ≤ w5.heap.size := G4.out.size
  have hb5b : w2.heap.size ≤ w5b.heap.size := G5.out.size
  have cE := fun W (h1 : StrsAt W bbg A) (h2 : StrsAt W bbw A) => eqS_any bbg bbw kg kw A W h1 h2
  clear hG hOG hg6 hg6' gV og tg HX OX HW HWx OWx TWx OW0 TW0 HX5 OX5 HW5 OW5 TW5 O1 x0 x1 x2
  obtain ⟨x0, x1, x2⟩ := A0.out.v2.three
  obtain ⟨y0, y1, y2⟩ := A0.out.v0.three
  go_wp2_with fail
  generalize w6'.alloc (.cells #[.int .i64 p, .string (bs u), .slice ag ys.length cg] 32) = w6 at *
  generalize w6'.heap.size = bg at *
  refine (eqDesk_yes p (bs u) ag aw cg cw ys w6 A0.out.o2.at A0.out.o0.at).mono ?_
  rintro e w7' ⟨rfl, hg7'⟩
  go_wp2_with fail
  refine (cE w7' (TG6.out.kept hg7').at (TW6.out.kept hg7').at).mono ?_
  rintro e w7 ⟨rfl, hg7⟩
  have hg77 := grownBy_trans hg7' hg7
  have A1 := Lib.hid (A0.out.grown hg77)
  have TW7 := Lib.hid (TW6.out.kept hg77)
  have TX7 := Lib.hid (TX6.out.kept hg77)
  have TG7 := Lib.hid (TG6.out.kept hg77)
  clear hg7 hg7' hg77 x0 x1 x2 y0 y1 y2 A0 TW6 TX6 TG6
  go_wp2_with fail
  have KS : Hid (∀ w', w7.grownBy w' none → w'.cell? ⟨bx, 0, none⟩ = some (.int .i64 a0) ∧ w'.cell? ⟨bx, 1, none⟩ = some (.string s0) ∧ w'.cell? ⟨bx, 2, none⟩ = some (.slice ax xs0.length cx) ∧ w'.cell? ⟨b, 0, none⟩ = some (.int .i64 a0) ∧ w'.cell? ⟨b, 1, none⟩ = some (.string s0) ∧ w'.cell? ⟨b, 2, none⟩ = some (.slice r0 xs0.length cap0) ∧ w7.grownBy w' none) := fun w' g => ⟨(A1.out.v1.grown g).three.1, (A1.out.v1.grown g).three.2.1, (A1.out.v1.grown g).three.2.2, (HB2.out.grown (grownBy_trans A1.out.gr g)).three.1, (HB2.out.grown (grownBy_trans A1.out.gr g)).three.2.1, (HB2.out.grown (grownBy_trans A1.out.gr g)).three.2.2, g⟩
  go_region_held3 (fun w' => w'.cell? ⟨bx, 0, none⟩ = some (.int .i64 a0) ∧ w'.cell? ⟨bx, 1, none⟩ = some (.string s0) ∧ w'.cell? ⟨bx, 2, none⟩ = some (.slice ax xs0.length cx) ∧ w'.cell? ⟨b, 0, none⟩ = some (.int .i64 a0) ∧ w'.cell? ⟨b, 1, none⟩ = some (.string s0) ∧ w'.cell? ⟨b, 2, none⟩ = some (.slice r0 xs0.length cap0) ∧ w7.grownBy w' none) (first | with_reducible exact KS.out _ GP.out | exact KS.out _ (grownBy_drew (grownBy_refl _ none))) (first | (go_at_call 29; (with_reducible refine (ct _ (HL2.out.grown (grownBy_trans A1.out.gr (lastS7' (by assumption))))).mono ?_); rintro e wa ⟨a2, c2, rfl, o2, ga⟩; have GP := Lib.hid (grownBy_trans (lastS7' (by assumption)) ga); have OO := Lib.hid o2.at) | (go_at_call 30; (with_reducible refine (eqDesk_yes a0 s0 ax a2 cx c2 xs0 _ (A1.out.o1.at.grown (lastS7' (by assumption))) OO.out).mono ?_); rintro e wd ⟨rfl, gd⟩; have GP := Lib.hid (grownBy_trans (lastS7' (by assumption)) gd)))
  have A2 := Lib.hid (A1.out.grown GP.out)
  have TW8 := Lib.hid (TW7.out.kept GP.out)
  have TX8 := Lib.hid (TX7.out.kept GP.out)
  have TG8 := Lib.hid (TG7.out.kept GP.out)
  clear A1 KS TW7 TX7 TG7
  go_wp2_with fail
  refine (cs _ (HD2.out.grown A2.out.gr)).mono ?_
  rintro e w8a ⟨e3, k3, rfl, o3, g8a⟩
  have cX := eqS_any (some ⟨e1, 0, none⟩) (some ⟨e3, 0, none⟩) k1 k3 ss w8a (TX8.out.kept g8a).at o3.at
  go_wp2_with fail
  refine cX.mono ?_
  rintro e w8 ⟨rfl, g8⟩
  have g88 := grownBy_trans g8a g8
  have A4 := Lib.hid (A2.out.grown g88)
  have TWA := Lib.hid (TW8.out.kept g88)
  have TXA := Lib.hid (TX8.out.kept g88)
  have TGA := Lib.hid (TG8.out.kept g88)
  clear A2 TW8 TX8 TG8 g8 g8a g88 o3 cX
  obtain ⟨x0, x1, x2⟩ := A4.out.v1.three
  obtain ⟨K0, hK0⟩ : ∃ K : Nat, K = 1 + 2 * xs0.length := ⟨_, rfl⟩
  obtain ⟨K1, hK1⟩ : ∃ K : Int, K = ((K0 + ss.length : Nat) : Int) := ⟨_, rfl⟩
  obtain ⟨M0, hM0⟩ : ∃ K : Nat, K = 1 + 2 * ys.length := ⟨_, rfl⟩
  obtain ⟨M1, hM1⟩ : ∃ K : Int, K = ((M0 + A.length : Nat) : Int) := ⟨_, rfl⟩
  have cm1 : ∀ W, OwnL W w3.heap.size ax xs0 → Calls Tryz.prog 31 #[.agg #[.int .i64 a0, .string s0, .slice ax xs0.length cx], .int .i64 1] W fun e w' => e = .returned (.int .i64 (K0 : Int)) ∧ MarkedD ax 1 xs0.length W w' := fun W hW => by
    rw [hK0]; exact markDk_any a0 s0 1 w3.heap.size cx ax xs0 (by omega) (by omega) W hW
  have cmd : ∀ W, OwnT W w5.heap.size (some ⟨e1, 0, none⟩) k1 ss → Calls Tryz.prog 36 #[.slice (some ⟨e1, 0, none⟩) ss.length k1, .int .i64 (K0 : Int)] W fun e w' => e = .returned (.int .i64 K1) ∧ MarkedT (some ⟨e1, 0, none⟩) K0 ss.length W w' := fun W hW => by
    rw [hK1]; exact markStringS_any K0 w5.heap.size k1 (some ⟨e1, 0, none⟩) ss (by omega) (by omega) W hW
  have cm2 : ∀ W, OwnL W w5b.heap.size ag ys → Calls Tryz.prog 31 #[.agg #[.int .i64 p, .string (bs u), .slice ag ys.length cg], .int .i64 1] W fun e w' => e = .returned (.int .i64 (M0 : Int)) ∧ MarkedD ag 1 ys.length W w' := fun W hW => by
    rw [hM0]; exact markDk_any p (bs u) 1 w5b.heap.size cg ag ys (by omega) (by omega) W hW
  have cme : ∀ W, OwnT W w5b.heap.size bbg kg A → Calls Tryz.prog 36 #[.slice bbg A.length kg, .int .i64 (M0 : Int)] W fun e w' => e = .returned (.int .i64 M1) ∧ MarkedT bbg M0 A.length W w' := fun W hW => by
    rw [hM1]; exact markStringS_any M0 w5b.heap.size kg bbg A (by omega) (by omega) W hW
  have ch2 : ∀ W, LdsAt W ag (mkRow 1 ys.length) → Calls Tryz.prog 32 #[.agg #[.int .i64 p, .string (bs u), .slice ag ys.length cg], .int .i64 1] W fun e w' => e = .returned (.int .i64 (M0 : Int)) ∧ W.grownBy w' none := fun W hW => by
    rw [hM0]; exact heldDk_any p (bs u) 1 ys.length cg ag (by omega) (by omega) W hW
  have che : ∀ W, StrsAt W bbg (mkT M0 A.length) → Calls Tryz.prog 37 #[.slice bbg A.length kg, .int .i64 (M0 : Int)] W fun e w' => e = .returned (.int .i64 M1) ∧ W.grownBy w' none := fun W hW => by
    rw [hM1]; exact heldStringS_any M0 A.length kg bbg (by omega) (by omega) W hW
  have hn1 : ¬ (K1 < 0) := by omega
  have hn2 : ¬ (M1 < 0) := by omega
  have hn3 : ¬ ((M0 : Int) < 0) := by omega
  have hkk : (M1 != M1) = false := by simp
  clear hK0 hK1 hM0 hM1 hyl hx hAl hsl2
  go_wp2_with fail
  refine (cm1 _ A4.out.o1).mono ?_
  rintro e w9 ⟨rfl, hM1⟩
  have B0 := Lib.hid (A4.out.mark hM1)
  have TT : Hid (OwnT w9 w2.heap.size bbw kw A ∧ OwnT w9 w5.heap.size (some ⟨e1, 0, none⟩) k1 ss ∧ OwnT w9 w5b.heap.size bbg kg A) := Lib.hid (by
    obtain ⟨_, row, hr, hg⟩ := hM1
    exact ⟨TWA.out.mark A4.out.o1 hr hg, TXA.out.mark A4.out.o1 hr hg, TGA.out.mark A4.out.o1 hr hg⟩)
  clear hM1 A4 cm1 x0 x1 x2 TWA TXA TGA
  go_wp2_with fail
  refine (cmd _ TT.out.2.1).mono ?_
  rintro e w9b ⟨rfl, hM3⟩
  have B1 : Hid (StB w2 w9b bw bg w3.heap.size w5b.heap.size p u ys aw ag cw cg ∧ OwnT w9b w2.heap.size bbw kw A ∧ OwnT w9b w5b.heap.size bbg kg A) := Lib.hid (by
    obtain ⟨row, hr, hg⟩ := TT.out.2.1.rowAt hM3
    exact ⟨B0.out.strs hb5 hr hg, TT.out.1.beside hr hg (.inl UW.out), TT.out.2.2.beside hr hg (.inr UX.out)⟩)
  clear hM3 B0 TT cmd
  obtain ⟨x0, x1, x2⟩ := B1.out.1.v2.three
  obtain ⟨y0, y1, y2⟩ := B1.out.1.v0.three
  go_wp2_with fail
  refine (eqDesk_yes p (bs u) ag aw cg cw ys _ B1.out.1.o2.at B1.out.1.o0.at).mono ?_
  rintro e w10' ⟨rfl, hg10'⟩
  go_wp2_with fail
  refine (cE w10' (B1.out.2.2.kept hg10').at (B1.out.2.1.kept hg10').at).mono ?_
  rintro e w10 ⟨rfl, hg10⟩
  have hg11 := grownBy_trans hg10' hg10
  have B2 := Lib.hid (B1.out.1.grown hg11)
  have T2 := Lib.hid (B1.out.2.1.kept hg11)
  have T3 := Lib.hid (B1.out.2.2.kept hg11)
  clear hg10 hg10' hg11 x0 x1 x2 y0 y1 y2 B1
  obtain ⟨x0, x1, x2⟩ := B2.out.v2.three
  have hap := Lib.hid (own_apartT B2.out.o2 T3.out)
  go_wp2_with fail
  refine (cm2 _ B2.out.o2).mono ?_
  rintro e w11 ⟨rfl, hM2⟩
  have C0 := Lib.hid (B2.out.mark hM2)
  have TT : Hid (OwnT w11 w2.heap.size bbw kw A ∧ OwnT w11 w5b.heap.size bbg kg A) := Lib.hid (by
    obtain ⟨_, row, hr, hg⟩ := hM2
    exact ⟨T2.out.mark B2.out.o2 hr hg, T3.out.mark B2.out.o2 hr hg⟩)
  clear hM2 B2 cm2 x0 x1 x2 T2 T3
  go_wp2_with fail
  refine (cme _ TT.out.2).mono ?_
  rintro e w11b ⟨rfl, hM4⟩
  have C1 : Hid (StC w2 w11b bw bg 1 p u ys aw ag cw cg ∧ OwnT w11b w2.heap.size bbw kw A ∧ StrsAt w11b bbg (mkT M0 A.length)) := Lib.hid (by
    obtain ⟨row, hr, hg⟩ := TT.out.2.rowAt hM4
    exact ⟨C0.out.strs hap.out hb5b hr hg, TT.out.1.beside hr hg (.inl fun x hx => Nat.lt_of_lt_of_le (UW.out x hx) s5), hM4.1⟩)
  clear hM4 C0 TT cme hap
  obtain ⟨x0, x1, x2⟩ := C1.out.1.v2.three
  go_wp2_with fail
  refine (ch2 _ C1.out.1.m2).mono ?_
  rintro e w12' ⟨rfl, hg12'⟩
  go_wp2_with fail
  refine (che _ (C1.out.2.2.grown hg12')).mono ?_
  rintro e w12 ⟨rfl, hg12⟩
  have hg13 := grownBy_trans hg12' hg12
  have C2 := Lib.hid (C1.out.1.grown hg13)
  have T2 := Lib.hid (C1.out.2.1.kept hg13)
  have T3 := Lib.hid (C1.out.2.2.grown hg13)
  clear hg12 hg12' hg13 C1 x0 x1 x2
  obtain ⟨d0, d1, d2⟩ := (HB2.out.grown C2.out.gr).three
  go_wp2_with fail
  refine (ct _ (HL2.out.grown C2.out.gr)).mono ?_
  rintro e wa2 ⟨a2, c2, rfl, o2, ga⟩
  have C3 := Lib.hid (C2.out.grown ga)
  clear d0 d1 d2
  go_wp2_with fail
  refine (cs _ (HD2.out.grown C3.out.gr)).mono ?_
  rintro e wb2 ⟨e2, k2, rfl, o3, gb⟩
  have C3b := Lib.hid (C3.out.grown gb)
  go_wp2_with fail
  refine (ci _ a2 c2 (some ⟨e2, 0, none⟩) k2 (o2.kept gb).at o2.bare o3.at C3b.out.gr).mono ?_
  rintro e wc2 ⟨ah, ck, bbh, kh, rfl, oh, _, th, gd⟩
  have gV := World.grownBy_alloc wc2 (.cells #[.int .i64 p, .string (bs u), .slice ah ys.length ck] 32) none
  have gall := grownBy_trans ga (grownBy_trans gb (grownBy_trans gd gV))
  have C4 := Lib.hid (C2.out.grown gall)
  have T4 := Lib.hid (T2.out.kept gall)
  have T5 := Lib.hid (T3.out.grown gall)
  have HOH := Lib.hid (oh.kept gV).at
  have HTH := Lib.hid (th.kept gV).at
  obtain ⟨x0, x1, x2⟩ := (CellsAt.new wc2 #[.int .i64 p, .string (bs u), .slice ah ys.length ck] 32).three
  obtain ⟨y0, y1, y2⟩ := C4.out.v0.three
  clear o2 o3 ga gb gd gV oh th gall C2 C3 C3b T2 T3
  have cH := fun W (h1 : StrsAt W bbh A) (h2 : StrsAt W bbw A) => eqS_any bbh bbw kh kw A W h1 h2
  go_wp2_with fail
  refine (eqDesk_yes p (bs u) ah aw ck cw ys _ HOH.out C4.out.o0.at).mono ?_
  rintro e w14' ⟨rfl, hg14'⟩
  go_wp2_with fail
  refine (cH w14' (HTH.out.grown hg14') (T4.out.kept hg14').at).mono ?_
  rintro e w14 ⟨rfl, hg14⟩
  have hg15 := grownBy_trans hg14' hg14
  have C5 := Lib.hid (C4.out.grown hg15)
  have T6 := Lib.hid (T5.out.grown hg15)
  clear hg14 hg14' hg15 x0 x1 x2 y0 y1 y2 C4 T4 T5
  obtain ⟨x0, x1, x2⟩ := C5.out.v2.three
  go_wp2_with fail
  refine (ch2 _ C5.out.m2).mono ?_
  rintro e w15 ⟨rfl, hg15⟩
  go_wp2_with fail
  refine (che _ (T6.out.grown hg15)).mono ?_
  rintro e w16 ⟨rfl, hg16⟩
  go_wp2_with fail
  go_ret
  exact ⟨rfl, below_of (grownBy_trans G2.out (C5.out.grown (grownBy_trans hg15 hg16)).gr)⟩

theorem FnExactDeskSay_walk (a0 : Int) (s0 : ByteArray) (r0 : Option Addr) (cap0 : Nat) (xs0 : List Ld) (a1 : Option Addr) (len1 cap1 : Nat) (z1 : List ByteArray) (w : World) (z0 : s0.size ≤ maxLen) (l0 : LdsAt w r0 xs0) (k0 : r0 = none → cap0 = 0) (q0 : ∀ x ∈ xs0, x.2.length ≤ maxLen) (w1 : IsStrs w a1 len1 cap1 z1) (hT : WdAt w ∧ ErAt w) :
    Calls Tryz.prog 7 #[.agg #[.int .i64 a0, .string s0, .slice r0 xs0.length cap0], .slice a1 len1 cap1] w fun e w' => e = .returned (.bool true) ∧ Below w.heap.size w w' := by
  obtain ⟨ss, rfl, hs, hq⟩ := strsIn w1
  exact exactSay_walk a0 s0 r0 cap0 xs0 a1 cap1 ss w z0 l0 k0 q0 hs hq hT

end Go.Proofs.YtlnffpofbfigaaaGreatDoor
