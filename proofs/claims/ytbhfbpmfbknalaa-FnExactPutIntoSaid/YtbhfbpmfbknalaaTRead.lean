/-
  impl's readings: a map whose keys are all that a table becomes where others are read for what is unknown.
-/
import Derived.Test.YtbhfbpmfbknalaaTKey
namespace Go.Proofs.Ytbhfbpmfbknalaa
open Go.RowKit Go.Maps

/-- The first k readings. -/
def rdL (x : Nat → Int) (ys : List Int) (k : Nat) : List (Nat → Int) := (List.range k).map fun m => rdF x (ys.getD (m / ys.length) 0) (ys.getD (m % ys.length) 0)
theorem rdL_step (x : Nat → Int) (ys : List Int) {i j : Nat} (hj : j < ys.length) : rdL x ys (i * ys.length + j + 1) = rdL x ys (i * ys.length + j) ++ [rdF x (ys.getD i 0) (ys.getD j 0)] := by
  unfold rdL
  have e1 : (i * ys.length + j) / ys.length = i := by
    rw [Nat.mul_comm, Nat.mul_add_div (by omega), Nat.div_eq_of_lt hj, Nat.add_zero]
  have e2 : (i * ys.length + j) % ys.length = j := by
    rw [Nat.mul_comm, Nat.mul_add_mod, Nat.mod_eq_of_lt hj]
  rw [List.range_succ, List.map_append, List.map_singleton, e1, e2]

/-- A map whose keys are the first k readings. -/
def RdMap (x : Nat → Int) (ys : List Int) (b k : Nat) (w : World) : Prop := ∃ D : DataW Value, w.ownsMap Try.prog 59 anyElem b k D ∧ KeysF D (rdL x ys k)
def RdRel (x : Nat → Int) (ys : List Int) (w : World) (i : Value) (wr : World) : Prop :=
  ∃ k : Nat, k ≤ ys.length ∧ i = .int .i64 k ∧ RdMap x ys (w.heap.size + 1) (k * ys.length) wr ∧ Blk9 wr w.heap.size x ∧ w.grownBy wr none
def RdRel2 (x : Nat → Int) (ys : List Int) (i : Nat) (p : Int) (B : Nat) (w : World) (v : Value) (wr : World) : Prop :=
  ∃ k : Nat, k ≤ ys.length ∧ v = .int .i64 k ∧ RdMap x ys (w.heap.size + 1) (i * ys.length + k) wr ∧ Blk9 wr w.heap.size x ∧ wr.cell? ⟨B, 0, none⟩ = some (.int .i64 p) ∧ w.grownBy wr none

theorem RdMap.grown {x : Nat → Int} {ys : List Int} {b k : Nat} {w w' : World} (h : RdMap x ys b k w) (g : w.grownBy w' none) : RdMap x ys b k w' := by
  obtain ⟨D, o, K⟩ := h
  exact ⟨D, o.kept g (by simp), K⟩
theorem cell_new1 (w : World) (v : Value) (t : TypeId) : (w.alloc (.cells #[v] t)).cell? ⟨w.heap.size, 0, none⟩ = some v := by simp

theorem ownsMap_lt {H : Type} {P : Program} {k : TypeId} {R : Value → Option (DataW H × List MemPlace)} {w : World} {b n : Nat} {D : DataW H} (h : w.ownsMap P k R b n D) : b < w.heap.size := by
  obtain ⟨es, clock, hb, _⟩ := h
  exact (Array.getElem?_eq_some_iff.1 hb).1

/-- What readings leaves. -/
def RdPost (x : Nat → Int) (ys : List Int) (w : World) (e : Ending) (w' : World) : Prop :=
  ∃ b, e = .returned (.map (some b)) ∧ RdMap x ys b (ys.length * ys.length) w' ∧ w.grownBy w' none

set_option maxHeartbeats 4000000 in
theorem readings_any (x : Nat → Int) (hx : ok3 x) (ys : List Int) (hy : ∀ k, k < ys.length → 0 ≤ ys.getD k 0 ∧ ys.getD k 0 ≤ 2) (hl : ys.length ≤ 3) (a : Option Addr) (cap : Nat) (w : World) (h : IntsAt w a ys) :
    Calls Try.prog 57 #[a9 x, .slice a ys.length cap] w (RdPost x ys w) := by
  have hmm : ∀ w, (Instr.makeMap 71 none).run Try.prog w = .ok (.map (some w.heap.size)) (w.alloc (.map #[] 0)) := fun _ => rfl
  have g1 : w.grownBy (w.alloc (.cells (c9 x) 59)) none := World.grownBy_alloc _ _ none
  have b1 := Blk9.new w x
  have s1 : (w.alloc (.cells (c9 x) 59)).heap.size = w.heap.size + 1 := by simp
  have g2 : (w.alloc (.cells (c9 x) 59)).grownBy ((w.alloc (.cells (c9 x) 59)).alloc (.map #[] 0)) none := World.grownBy_alloc _ _ none
  have o2 : ((w.alloc (.cells (c9 x) 59)).alloc (.map #[] 0)).ownsMap Try.prog 59 anyElem (w.alloc (.cells (c9 x) 59)).heap.size 0 (DataW.map [] : DataW Value) := World.ownsMap_made _ _ _ _
  rw [s1] at o2
  obtain ⟨wb, hwb⟩ : ∃ wb, wb = (w.alloc (.cells (c9 x) 59)).alloc (.map #[] 0) := ⟨_, rfl⟩
  have bx := b1.grown g2
  have gg := grownBy_trans g1 g2
  rw [← hwb] at bx gg o2
  have HI := Lib.hid h
  have GG := Lib.hid gg
  have BX := Lib.hid bx
  have OO := Lib.hid o2
  have HY := Lib.hid hy
  have HX := Lib.hid hx
  clear g1 b1 s1 g2 o2 bx gg h hy hx
  unfold a9
  unfold c9 at *
  go_enter Try.func57, Try.ntmps57
  go_wp2_with fail
  rw [← hwb]
  clear hwb hmm
  go_loopw [15] (fun i wr => RdRel x ys w i wr) (fun i _ => ys.length - (intOf i).toNat)
  case atStart => exact ⟨0, by omega, rfl, ⟨_, by simpa using OO.out, by simpa [rdL] using keysF_none⟩, BX.out, GG.out⟩
  case round =>
    obtain ⟨i, hi, rfl, hm, hb, hgr⟩ := hrel
    obtain ⟨wo, rfl⟩ : ∃ wo : World, wo = wr := ⟨_, rfl⟩
    by_cases hlt : i < ys.length
    · have hpi := HY.out i hlt
      rcases (HI.out.grown hgr).2 with h0 | ⟨bx, ox, rfl, hbx, hcx⟩
      · rw [h0] at hlt; simp at hlt
      have hc := hcx i hlt
      have i0 : (0 : Int) ≤ (i : Int) := by omega
      have i1 : (i : Int) < (ys.length : Int) := by omega
      obtain ⟨p, hp⟩ : ∃ p, ys.getD i 0 = p := ⟨_, rfl⟩
      rw [hp] at hc hpi
      have HP := Lib.hid hp
      have HPI := Lib.hid hpi
      have HM := Lib.hid hm
      have HB := Lib.hid hb
      have HG := Lib.hid hgr
      have HLT := Lib.hid hlt
      have HW : Hid (w.heap.size + 1 < wo.heap.size) := by
        obtain ⟨D, o, _⟩ := hm
        exact ownsMap_lt o
      clear hcx hbx hp hpi hm hb hgr hlt
      go_wp2_with fail
      go_loopw [21] (fun v wx => RdRel2 x ys i p wo.heap.size w v wx) (fun v _ => ys.length - (intOf v).toNat)
      case atStart =>
        have ga : wo.grownBy (wo.alloc (.cells #[.int .i64 p] 3)) none := World.grownBy_alloc _ _ none
        exact ⟨0, by omega, rfl, HM.out.grown ga, HB.out.grown ga, cell_new1 _ _ _, grownBy_trans HG.out ga⟩
      case round =>
        obtain ⟨j, hj, rfl, hm2, hb2, hc1, hg2⟩ := hrel
        by_cases hlt2 : j < ys.length
        · have hqj := HY.out j hlt2
          rcases (HI.out.grown hg2).2 with h0 | ⟨bx', ox', he, hbx', hcx'⟩
          · have := HLT.out; rw [h0] at this; simp at this
          cases he
          have hc' := hcx' j hlt2
          have j0 : (0 : Int) ≤ (j : Int) := by omega
          have j1 : (j : Int) < (ys.length : Int) := by omega
          obtain ⟨q, hq⟩ : ∃ q, ys.getD j 0 = q := ⟨_, rfl⟩
          rw [hq] at hc' hqj
          have ga : wr.grownBy (wr.alloc (.cells #[.int .i64 q] 3)) none := World.grownBy_alloc _ _ none
          have cu := u_any p wo.heap.size (wr.alloc (.cells #[.int .i64 q] 3)) (ga.cell hc1 (by simp))
          have hcq := cell_new1 wr (.int .i64 q) 3
          have HA := Lib.hid ga
          have HQ := Lib.hid hq
          have HQJ := Lib.hid hqj
          have HM2 := Lib.hid hm2
          have HB2 := Lib.hid hb2
          have HC1 := Lib.hid hc1
          have HG2 := Lib.hid hg2
          have HCQ := Lib.hid hcq
          have HLT2 := Lib.hid hlt2
          clear hbx' hcx' hq hqj hm2 hb2 hc1 hg2 hcq ga hlt2
          go_wp2_with fail
          refine cu.mono ?_
          rintro e w2 ⟨rfl, g2⟩
          have gb : w2.grownBy (w2.alloc (.cells (c9 (uF p)) 59)) none := World.grownBy_alloc _ _ none
          have cv := v_any q wr.heap.size (w2.alloc (.cells (c9 (uF p)) 59)) ((grownBy_trans g2 gb).cell HCQ.out (by simp))
          have HU := Lib.hid (Blk9.new w2 (uF p))
          have HA2 := Lib.hid (grownBy_trans HA.out (grownBy_trans g2 gb))
          clear cu gb g2 HA HCQ
          unfold a9
          unfold c9 at *
          go_wp2_with fail
          refine cv.mono ?_
          rintro e w4 ⟨rfl, g4⟩
          have gc : w4.grownBy (w4.alloc (.cells (c9 (vF q)) 59)) none := World.grownBy_alloc _ _ none
          have HV := Lib.hid (Blk9.new w4 (vF q))
          have gd := grownBy_trans HA2.out (grownBy_trans g4 gc)
          obtain ⟨a0, a1, a2, a3, a4, a5, a6, a7, a8⟩ := (HB2.out.grown gd).cells
          obtain ⟨d0, d1, d2, d3, d4, d5, d6, d7, d8⟩ := (HU.out.grown (grownBy_trans g4 gc)).cells
          obtain ⟨e0, e1, e2, e3, e4, e5, e6, e7, e8⟩ := HV.out.cells
          have HA3 := Lib.hid gd
          clear cv gc g4 gd HA2
          unfold a9
          unfold c9 at *
          go_wp2_with fail
          have hu3 := uF_ok HPI.out
          have hv3 := vF_ok HQJ.out
          refine (com_any x (uF p) (vF q) hu3 hv3 _).mono ?_
          rintro e w6 ⟨rfl, g6⟩
          have hrok : ok3 (rdF x p q) := rdF_ok HX.out HPI.out HQJ.out
          have hst : rdL x ys (i * ys.length + j + 1) = rdL x ys (i * ys.length + j) ++ [rdF x p q] := by
            rw [rdL_step x ys HLT2.out, HP.out, HQ.out]
          have hG := grownBy_trans HA3.out g6
          obtain ⟨D, o2, K2⟩ := HM2.out
          have o6 := Lib.hid (o2.kept hG (by simp))
          have K3 := Lib.hid (hst ▸ keysF_put K2 hrok (.held (.bool true)))
          have hkey := key9 hrok
          have hmul : i * ys.length ≤ 2 * 3 := Nat.mul_le_mul (by omega) hl
          have hsmall : i * ys.length + j < maxLen := by unfold maxLen; omega
          have HS := Lib.hid hsmall
          have HK := Lib.hid hkey
          have HGG := Lib.hid hG
          clear hu3 hv3 hrok hst hG o2 K2 hkey hmul hsmall a0 a1 a2 a3 a4 a5 a6 a7 a8 d0 d1 d2 d3 d4 d5 d6 d7 d8 e0 e1 e2 e3 e4 e5 e6 e7 e8 HU HV HA3
          go_wp2_with (at_mapUpdate; refine wpList_mapUpdate_own _ rfl _ _ _ 71 rfl 59 4 law9 Try.underlying71 _ (w.heap.size + 1) (i * ys.length + j) D rfl o6.out HS.out (a9 (putF x (uF p) (vF q))) (.bool true) (k9 (rdF x p q)) rfl rfl (HK.out w6) (.held (.bool true)) [] rfl ?_; intro w7 o7 g7)
          have hB7 : Blk9 w7 w.heap.size x := (HB2.out.grown HGG.out).kept g7 (by simp)
          have hC7 : w7.cell? ⟨wo.heap.size, 0, none⟩ = some (.int .i64 p) := g7.cell (HGG.out.cell HC1.out (by simp)) (by have := HW.out; simp; omega)
          have hG7 := grow_at (grownBy_trans HG2.out HGG.out) g7 (by omega)
          have R7 := Lib.hid (show RdRel2 x ys i p wo.heap.size w (.int .i64 ((j + 1 : Nat) : Int)) w7 from ⟨j + 1, HLT2.out, rfl, ⟨_, o7, K3.out⟩, hB7, hC7, hG7⟩)
          clear hB7 hC7 hG7 o7
          go_roundw
          case rel => exact R7.out
          case measure => simp [intOf]; have := HLT2.out; omega
        · obtain rfl : j = ys.length := by omega
          have HM2 := Lib.hid hm2
          have HB2 := Lib.hid hb2
          have HG2 := Lib.hid hg2
          clear hm2 hb2 hc1 hg2 hlt2
          go_wp2_with fail
          go_roundw
          case rel => exact ⟨i + 1, HLT.out, by go_num, by rw [Nat.succ_mul]; exact HM2.out, HB2.out, HG2.out⟩
          case measure => simp [intOf]; have := HLT.out; omega
    · obtain rfl : i = ys.length := by omega
      have HM := Lib.hid hm
      have HG := Lib.hid hgr
      clear hm hgr hb
      go_wp2_with fail
      go_ret
      exact ⟨_, rfl, HM.out, HG.out⟩

end Go.Proofs.Ytbhfbpmfbknalaa
