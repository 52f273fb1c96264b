/-
  Joined out of the texts DUc, DLd, DLz: what each holds is told at its head.
-/
import Derived.Test.YtlnffpofbfigaaaGreatDoorZFnReadJournal
import Derived.Test.YtlnffpofbfigaaaGreatDoorRows
import Derived.ProofKit
import Derived.OpenShut
import Derived.OpenVars
import Derived.LaidMore
import Derived.Stop.Joined
import Derived.Stop.LaidErr

/-
  The walk of FnReadJournal.
-/
namespace Go.Proofs.YtlnffpofbfigaaaGreatDoor
open Go.RowKit

theorem isrow_more {k : IntKind} {w w' : World} {a : Option Addr} {len cap : Nat} {zs : List Int} (h : IsRow k w a len cap zs) (hg : w.grownBy w' none) : IsRow k w' a len cap zs := by
  rcases h with h | ⟨x, ha, h1, h2, h3, h4, h5⟩
  · exact .inl h
  · exact .inr ⟨x, ha, h1, h2, h3, fun i hi => cell_grown (h4 i hi) hg, h5⟩
section
variable {P : Program} {ops : Array Oper} {Q : Exit → Act → World → Prop} {md : Region.Mode} {S : World → Prop}
theorem stake_an (i d : Nat) {oi : Oper} {v : Value} {fuel : Nat} {listed : Array Bool} {a : Act} {w : World} (hi : ops[i]? = some oi) (hd : oi.dst = some d) (hs : Region.noSelect ops = true) (hf : Region.free md ops listed i = true) (hr : (Region.ready md ops listed).contains i = true)
    (hQ : ∀ c a w, Q (.panic c) (a.put (some d) v) w → Q (.panic c) a w) (hw : Region.wanted oi (yielded ops a.tmps) = true) (hy : ∀ w, S w → (execOp a.eval oi).run P w = .ok (.value v) w) (hS : S w) (h : wpAnyH P md ops Q S fuel (listed.setIfInBounds i true) (a.put (some d) v) w) : wpAnyH P md ops Q S (fuel + 1) listed a w :=
  wpAnyH_take hi hs hf hr (by rw [hd]; exact hQ) (Or.inl ⟨hw, hy⟩) hS (by rw [hd]; exact h)
theorem sdrop_an (i d : Nat) {oi : Oper} {fuel : Nat} {listed : Array Bool} {a : Act} {w : World} (hi : ops[i]? = some oi) (hd : oi.dst = some d) (hs : Region.noSelect ops = true) (hf : Region.free md ops listed i = true) (hr : (Region.ready md ops listed).contains i = true)
    (hQ : ∀ c a w, Q (.panic c) (a.put (some d) undef) w → Q (.panic c) a w) (hw : Region.wanted oi (yielded ops a.tmps) = false) (hS : S w) (h : wpAnyH P md ops Q S fuel (listed.setIfInBounds i true) (a.put (some d) undef) w) : wpAnyH P md ops Q S (fuel + 1) listed a w :=
  wpAnyH_take hi hs hf hr (by rw [hd]; exact hQ) (Or.inr ⟨hw, rfl⟩) hS (by rw [hd]; exact h)
end

set_option maxHeartbeats 400000 in
theorem same_self1 (m : Int) (s : List UInt8) (xs : List Ld) (a b : Option Addr) (ca cb : Nat) (W : World) (h1 : LdsAt W a xs) (h2 : LdsAt W b xs) :
    Calls Tryz.prog 18 #[dkV ((m, s), xs) a ca, dkV ((m, s), xs) b cb] W fun e w' => e = .returned (.bool (sameK ((m, s), xs) ((m, s), xs))) ∧ W.grownBy w' none := dksame_any ((m, s), xs) ((m, s), xs) a b ca cb W h1 h2
set_option maxHeartbeats 400000 in
theorem same_self2 (m : Int) (s : List UInt8) (xs : List Ld) (a b : Option Addr) (ca cb : Nat) (W : World) (h1 : LdsAt W a xs) (h2 : LdsAt W b xs) :
    Calls Tryz.prog 18 #[dkV ((m, s), xs) a ca, dkV ((m, s), xs) b cb] W fun e w' => e = .returned (.bool true) ∧ W.grownBy w' none := by
  refine (same_self1 m s xs a b ca cb W h1 h2).mono ?_
  rintro e w' ⟨rfl, hg⟩
  exact ⟨by rw [sameK_self], hg⟩
set_option maxHeartbeats 400000 in
theorem same_self3 (m : Int) (s : List UInt8) (xs : List Ld) (a b : Option Addr) (ca cb : Nat) (W : World) (h1 : LdsAt W a xs) (h2 : LdsAt W b xs) :
    Calls Tryz.prog 18 #[.agg #[.int .i64 m, .string (bs s), .slice a xs.length ca], .agg #[.int .i64 m, .string (bs s), .slice b xs.length cb]] W fun e w' => e = .returned (.bool true) ∧ W.grownBy w' none := by
  have := same_self2 m s xs a b ca cb W h1 h2
  unfold dkV at this
  exact this
theorem lastS10 {a b c d e f g h i j : Prop} (x : a ∧ b ∧ c ∧ d ∧ e ∧ f ∧ g ∧ h ∧ i ∧ j) : j := x.2.2.2.2.2.2.2.2.2
theorem ird_pre (l : List UInt8) (m : List Dd) (n : Nat) (S : ByteArray) (h : rdJ l = (m, n)) (hS : S = bs l) (hl : l.length ≤ 1000) (k : Nat) (hk : k ≤ l.length) : ∃ (q j : Nat), q ≤ m.length ∧ j ≤ k ∧ ∀ w, WdAt w → ErAt w → Calls Tryz.prog 9 #[.string (S.extract 0 k)] w fun e w' => ∃ (a : Option Addr) (cap : Nat), e = .returned (.tuple #[.slice a q cap, .int .i64 (j : Nat)]) ∧ DdsAt w' a (m.take q) ∧ w.grownBy w' none := by
  obtain ⟨q, j, h1, h2, h3⟩ := rdJ_pre h k
  refine ⟨q, j, h2, h3, fun w hT hE => ?_⟩
  rw [hS, sj_take]
  refine (irj_is2 (l.take k) (m.take q) j h1 (by rw [List.length_take]; omega) w hT hE).mono ?_
  rintro e w' ⟨a, cap, rfl, ho, hg⟩
  have hq : (m.take q).length = q := by rw [List.length_take]; omega
  exact ⟨a, cap, by rw [hq], ho.at, hg⟩

set_option maxRecDepth 100000 in
set_option maxHeartbeats 16000000 in
theorem FnReadJournal_walk (a0 : Option Addr) (len0 cap0 : Nat) (z0 : List Int) (a1 : Option Addr) (len1 cap1 : Nat) (z1 : List Int) (w : World) (w0 : IsRow .u8 w a0 len0 cap0 z0) (w1 : IsRow .u8 w a1 len1 cap1 z1) (hT : WdAt w ∧ ErAt w) :
    Calls Tryz.prog 3 #[.slice a0 len0 cap0, .slice a1 len1 cap1] w fun e w' => e = .returned (.bool true) ∧ Below w.heap.size w w' := by
  by_cases hl : (1048576 : Int) < (len0 : Int)
  · clear w0 w1
    go_enter Tryz.func3, Tryz.ntmps3
    go_wp2_with fail
    go_ret
    exact ⟨rfl, Below.refl _ _⟩
  by_cases hl1 : (1048576 : Int) < (len1 : Int)
  · clear w0 w1
    go_enter Tryz.func3, Tryz.ntmps3
    go_wp2_with fail
    go_ret
    exact ⟨rfl, Below.refl _ _⟩
  have HT := Lib.hid hT
  have HW1 := Lib.hid w1
  clear hT w1
  go_enter Tryz.func3, Tryz.ntmps3
  go_wp2_with fail
  refine (DrawReadJournal_any _ _ _ _ _ w0).mono ?_
  rintro e w2 ⟨l, rfl, hlen, g2⟩
  have G2 := Lib.hid g2
  obtain ⟨m, n, hq⟩ : ∃ m n, rdJ l = (m, n) := ⟨_, _, rfl⟩
  obtain ⟨S, hS⟩ : ∃ S, S = bs l := ⟨_, rfl⟩
  have hSz : Hid (S.size = l.length) := Lib.hid (by rw [hS, bs_size])
  have hml : Hid (m.length ≤ 1000) := Lib.hid (Nat.le_trans (rdJ_len hq) hlen)
  have cp : Hid (∀ k, k ≤ l.length → ∃ (q j : Nat), q ≤ m.length ∧ j ≤ k ∧ ∀ w, WdAt w → ErAt w → Calls Tryz.prog 9 #[.string (S.extract 0 k)] w fun e w' => ∃ (a : Option Addr) (cap : Nat), e = .returned (.tuple #[.slice a q cap, .int .i64 (j : Nat)]) ∧ DdsAt w' a (m.take q) ∧ w.grownBy w' none) := Lib.hid fun k hk => ird_pre l m n S hq hS hlen k hk
  have ci := fun W hT hE => irj_is2 l m n hq (by omega) W hT hE
  have cs := fun W => srj_is l m n hq (by omega) W
  have HQ := Lib.hid hq
  have HS := Lib.hid hS
  have HLen := Lib.hid hlen
  rw [← hS] at ci cs ⊢
  clear w0 g2 hq hS hlen
  go_wp2_with fail
  refine (ci w2 (HT.out.1.grown G2.out) (HT.out.2.grown G2.out)).mono ?_
  rintro e w3 ⟨ax, cx, rfl, ox, g3⟩
  have G3 := Lib.hid (grownBy_trans G2.out g3)
  have OX := Lib.hid ox
  clear g3 ox ci
  go_wp2_with fail
  refine (cs w3).mono ?_
  rintro e w4 ⟨ay, cy, rfl, oy, g4⟩
  have G4 := Lib.hid (grownBy_trans G3.out g4)
  have OX4 := Lib.hid (OX.out.kept g4)
  have OY := Lib.hid oy
  clear g4 oy cs
  go_wp2_with fail
  refine (sameDeeds_yes ax ay cx cy m w4 OX4.out.at OY.out.at).mono ?_
  rintro e w5 ⟨rfl, g5⟩
  have G5 := Lib.hid (grownBy_trans G4.out g5)
  have OX5 := Lib.hid (OX4.out.kept g5)
  clear g5
  have hroom := Lib.hid OX5.out.room
  go_wp2_with fail
  go_loopw [10] (fun kv wr => PreRel l w5 kv wr) (fun kv _ => l.length + 1 - (intOf kv).toNat)
  case atStart => exact ⟨0, by omega, rfl, grownBy_refl _ _⟩
  case round =>
    obtain ⟨k, hk, rfl, hgr⟩ := hrel
    have HG := Lib.hid hgr
    clear hgr
    have hl1000 := HLen.out
    by_cases hlt : k ≤ l.length
    · obtain ⟨q, j, hqm, hjk, cc⟩ := cp.out k hlt
      have hks : (k : Int) ≤ (S.size : Int) := by rw [hSz.out]; omega
      have r1 := sl_lo S k (by rw [hSz.out]; exact hlt)
      have hq1 : (q : Int) ≤ (m.length : Int) := by omega
      have hq2 : (q : Int) ≤ (cx : Int) := by have := hroom.out.1; omega
      have hq3 : ¬ ((m.length : Int) < (q : Int)) := by omega
      have hj1 : (j : Int) ≤ (k : Int) := by omega
      have hql : (m.take q).length = q := by rw [List.length_take]; omega
      have csd : ∀ (b : Option Addr) (cb : Nat) (W : World), DdsAt W b (m.take q) → DdsAt W ax m → Calls Tryz.prog 11 #[.slice b q cb, .slice ax q cx] W fun e w' => e = .returned (.bool true) ∧ W.grownBy w' none := fun b cb W h1 h2 => by
        have := sameDeeds_yes b ax cb cx (m.take q) W h1 (h2.take q)
        rw [hql] at this
        exact this
      go_wp2_with fail
      refine (cc wr (HT.out.1.grown (grownBy_trans G5.out HG.out)) (HT.out.2.grown (grownBy_trans G5.out HG.out))).mono ?_
      rintro e w6 ⟨a6, c6, rfl, h6, g6⟩
      have H6 := Lib.hid h6
      have HL6 := Lib.hid (OX5.out.at.grown (grownBy_trans HG.out g6))
      have G6 := Lib.hid (grownBy_trans HG.out g6)
      clear h6 g6 cc hql
      go_wp2_with fail
      rw [show (min (q : Int) (m.length : Int)).toNat = q by omega]
      refine (csd a6 c6 w6 H6.out HL6.out).mono ?_
      rintro e w8 ⟨rfl, g8⟩
      have G8 := Lib.hid (grownBy_trans G6.out g8)
      clear g8 csd
      go_wp2_with fail
      go_roundw
      case rel => exact ⟨k + 1, by omega, by go_num, G8.out⟩
      case measure => simp [intOf]; omega
    · have hks : ¬ ((k : Int) ≤ (S.size : Int)) := by rw [hSz.out]; omega
      have HGw := Lib.hid (grownBy_trans G5.out HG.out)
      have OXr := Lib.hid (OX5.out.kept HG.out)
      clear hlt hk cp
      go_wp2_with fail
      refine (DrawDeskRun_any deedC _ _ _ _ wr (isrow_more HW1.out HGw.out)).mono ?_
      rintro e w7 ⟨d, a, c, dl, b, capb, rfl, hd, h0, _, _, _, g7⟩
      obtain ⟨⟨p, s⟩, xs⟩ := d
      have gA := World.grownBy_alloc w7 (.cells #[.int .i64 p, .string (bs s), .slice a xs.length c] 32) none
      have HA := Lib.hid (CellsAt.new w7 #[.int .i64 p, .string (bs s), .slice a xs.length c] 32)
      have HX := Lib.hid (show LdsAt _ a xs from hd.grown gA)
      have GA := Lib.hid (grownBy_trans HGw.out (grownBy_trans g7 gA))
      have OXA := Lib.hid (OXr.out.kept (grownBy_trans g7 gA))
      have HSe := Lib.hid (CellsAt.second w7 (.cells #[.int .i64 p, .string (bs s), .slice a xs.length c] 32) #[.int .i64 p, .string (bs s), .slice a xs.length c] 32)
      have gB := World.grownBy_alloc (w7.alloc (.cells #[.int .i64 p, .string (bs s), .slice a xs.length c] 32)) (.cells #[.int .i64 p, .string (bs s), .slice a xs.length c] 32) none
      have hWb : (w7.alloc (.cells #[.int .i64 p, .string (bs s), .slice a xs.length c] 32)).heap.size ≤ w7.heap.size + 1 := by simp
      have HI : Hid (dkB ((p, s), xs) = true → NowR (w7.alloc (.cells #[.int .i64 p, .string (bs s), .slice a xs.length c] 32)) (w7.heap.size + 1) ((p, s), xs) m 0 0 ((p, s), xs) a c ((w7.alloc (.cells #[.int .i64 p, .string (bs s), .slice a xs.length c] 32)).alloc (.cells #[.int .i64 p, .string (bs s), .slice a xs.length c] 32))) := Lib.hid fun hdk => ⟨by rw [List.take_zero]; rfl, hdk, HSe.out, HX.out.grown gB, off_lds HX.out hWb, h0, gB, hWb⟩
      have GB := Lib.hid gB
      clear hd g7 gA gB hWb
      unfold dkV
      go_wp2_with fail
      generalize (w7.alloc (.cells #[.int .i64 p, .string (bs s), .slice a xs.length c] 32)).alloc (.cells #[.int .i64 p, .string (bs s), .slice a xs.length c] 32) = WB at *
      generalize w7.alloc (.cells #[.int .i64 p, .string (bs s), .slice a xs.length c] 32) = WA at *
      generalize w7.heap.size + 1 = b2 at *
      generalize w7.heap.size = b1 at *
      have HR := Lib.hid (rdJ_told HQ.out)
      have HTx := Lib.hid (rdJ_texts HQ.out)
      have cO : ∀ W, WA.grownBy W none → Calls Tryz.prog 13 #[.agg #[.int .i64 p, .string (bs s), .slice a xs.length c]] W fun e w' => e = .returned (.bool (dkB ((p, s), xs))) ∧ W.grownBy w' none := fun W hg => sdesk_is ((p, s), xs) a c W (HX.out.grown hg)
      cases hdk : dkB ((p, s), xs)
      · rw [hdk] at cO
        go_loopw [16] (fun kv wr => kv = .int .i64 0 ∧ WB.grownBy wr none) (fun _ _ => 0)
        case atStart => exact ⟨rfl, grownBy_refl _ _⟩
        case round =>
          obtain ⟨rfl, hgr⟩ := hrel
          have GN := Lib.hid (grownBy_trans GB.out hgr)
          clear hgr
          by_cases hm0 : (0 : Int) < (m.length : Int)
          · have hm1 : 0 < m.length := by omega
            clear hm0
            obtain ⟨d0, d1, d2⟩ := (HA.out.grown GN.out).three
            go_wp2_with fail
            refine (cO wr GN.out).mono ?_
            rintro e wq ⟨rfl, gq⟩
            have GQ := Lib.hid (grownBy_trans GN.out gq)
            clear gq d0 d1 d2
            obtain ⟨⟨⟨⟨pe, se⟩, ye⟩, ne⟩, hRR⟩ : ∃ R, R = runR ((p, s), xs) m := ⟨_, rfl⟩
            have cR : ∀ W, WA.grownBy W none → Calls Tryz.prog 16 #[.agg #[.int .i64 p, .string (bs s), .slice a xs.length c], .slice ax m.length cx] W fun e w' => ∃ a' cap', e = .returned (.tuple #[.agg #[.int .i64 pe, .string (bs se), .slice a' ye.length cap'], .int .i64 (ne : Int)]) ∧ OwnL w' W.heap.size a' ye ∧ (a' = none → cap' = 0) ∧ W.grownBy w' none := fun W hg => by
              have := irun_any ((p, s), xs) m a ax c cx W (HX.out.grown hg) h0 (OXA.out.at.grown hg) (fun x hx => by have := HTx.out x hx; omega)
              rw [← hRR] at this
              exact this
            clear hRR
            obtain ⟨E, hE⟩ : ∃ E, E = S.extract 0 n := ⟨_, rfl⟩
            have hnS : n ≤ S.size := by rw [hSz.out]; exact HR.out.2.1
            have r2 := sl_lo S n hnS
            rw [← hE] at r2
            have cJ : ∀ W, WA.grownBy W none → Calls Tryz.prog 17 #[.slice ax m.length cx] W fun e w' => e = .returned (.string E) ∧ W.grownBy w' none := fun W hg => by
              have := ijt_any m (by have := hml.out; omega) ax cx W (OXA.out.at.grown hg) (HT.out.1.grown (grownBy_trans GA.out hg))
              unfold JtPost at this
              rw [HR.out.1, ← sj_take, ← HS.out, ← hE] at this
              exact this
            have hn1 : (n : Int) ≤ (S.size : Int) := by omega
            clear hE hnS
            obtain ⟨d0, d1, d2⟩ := (HA.out.grown GQ.out).three
            go_wp2_with fail
            refine (cR wq GQ.out).mono ?_
            rintro e we ⟨a5, c5, rfl, o5, z5, g5⟩
            have gE := World.grownBy_alloc we (.cells #[.int .i64 pe, .string (bs se), .slice a5 ye.length c5] 32) none
            have G5b := Lib.hid (grownBy_trans GQ.out (grownBy_trans g5 gE))
            clear o5 g5 gE cR z5 d0 d1 d2
            go_wp2_with fail
            generalize we.alloc (.cells #[.int .i64 pe, .string (bs se), .slice a5 ye.length c5] 32) = WE at *
            generalize we.heap.size = b5 at *
            have KS : Hid (∀ w', WE.grownBy w' none → w'.cell? ⟨b1, 0, none⟩ = some (.int .i64 p) ∧ w'.cell? ⟨b1, 1, none⟩ = some (.string (bs s)) ∧ w'.cell? ⟨b1, 2, none⟩ = some (.slice a xs.length c)) := Lib.hid fun w' g => ⟨(HA.out.grown (grownBy_trans G5b.out g)).three.1, (HA.out.grown (grownBy_trans G5b.out g)).three.2.1, (HA.out.grown (grownBy_trans G5b.out g)).three.2.2⟩
            refine wp_region_noPanic ?_
            refine wp_region_held_drew (S := fun w' => WE.grownBy w' none) (by kernel_rfl) (grownBy_drew (grownBy_refl _ none)) (fun hH => ?_)
            refine stake_an 0 124 (v := ?va1) rfl rfl (by kernel_rfl) (by kernel_rfl) (by kernel_rfl) (fun _ _ _ h => h) (by rfl) ?ya1 hH ?ra1
            case ya1 => (intro w _; go_simp; try with_reducible rfl)
            try simp only [Act.put, List.setIfInBounds_toArray, List.set_cons_zero, List.set_cons_succ]
            refine stake_an 1 125 (v := ?va2) rfl rfl (by kernel_rfl) (by kernel_rfl) (by kernel_rfl) (fun _ _ _ h => h) (by rfl) ?ya2 hH ?ra2
            case ya2 => (intro w _; go_simp; try with_reducible rfl)
            try simp only [Act.put, List.setIfInBounds_toArray, List.set_cons_zero, List.set_cons_succ]
            refine stake_an 2 126 (v := ?va3) rfl rfl (by kernel_rfl) (by kernel_rfl) (by kernel_rfl) (fun _ _ _ h => h) (by rfl) ?ya3 hH ?ra3
            case ya3 => (intro w _; go_simp; try with_reducible rfl)
            try simp only [Act.put, List.setIfInBounds_toArray, List.set_cons_zero, List.set_cons_succ]
            refine stake_an 3 127 (v := ?va4) rfl rfl (by kernel_rfl) (by kernel_rfl) (by kernel_rfl) (fun _ _ _ h => h) (by rfl) ?ya4 hH ?ra4
            case ya4 => (intro w _; go_simp; try with_reducible rfl)
            try simp only [Act.put, List.setIfInBounds_toArray, List.set_cons_zero, List.set_cons_succ]
            refine stake_an 4 128 (v := ?va5) rfl rfl (by kernel_rfl) (by kernel_rfl) (by kernel_rfl) (fun _ _ _ h => h) (by rfl) ?ya5 hH ?ra5
            case ya5 => (intro w _; go_simp; try with_reducible rfl)
            try simp only [Act.put, List.setIfInBounds_toArray, List.set_cons_zero, List.set_cons_succ]
            refine stake_an 5 129 (v := ?va6) rfl rfl (by kernel_rfl) (by kernel_rfl) (by kernel_rfl) (fun _ _ _ h => h) (by rfl) ?ya6 hH ?ra6
            case ya6 => (intro w _; go_simp; try with_reducible rfl)
            try simp only [Act.put, List.setIfInBounds_toArray, List.set_cons_zero, List.set_cons_succ]
            refine stake_an 7 131 (v := ?va7) rfl rfl (by kernel_rfl) (by kernel_rfl) (by kernel_rfl) (fun _ _ _ h => h) (by rfl) ?ya7 hH ?ra7
            case ya7 => (intro w _; go_simp; try with_reducible rfl)
            try simp only [Act.put, List.setIfInBounds_toArray, List.set_cons_zero, List.set_cons_succ]
            refine stake_an 8 132 (v := ?va8) rfl rfl (by kernel_rfl) (by kernel_rfl) (by kernel_rfl) (fun _ _ _ h => h) (by rfl) ?ya8 hH ?ra8
            case ya8 => (intro w _; go_simp; try with_reducible rfl)
            try simp only [Act.put, List.setIfInBounds_toArray, List.set_cons_zero, List.set_cons_succ]
            refine stake_an 9 133 (v := ?va9) rfl rfl (by kernel_rfl) (by kernel_rfl) (by kernel_rfl) (fun _ _ _ h => h) (by rfl) ?ya9 hH ?ra9
            case ya9 => (intro w _; go_simp; try with_reducible rfl)
            try simp only [Act.put, List.setIfInBounds_toArray, List.set_cons_zero, List.set_cons_succ]
            refine wpAnyH_ready (rs := [6]) (by kernel_rfl) (by simp) ?_
            refine AllReadyH.cons rfl (fun K hK => ?_) AllReadyH.nil
            go_simp
            refine (cJ _ (grownBy_trans G5b.out hH)).mono ?_
            rintro e wagj ⟨rfl, gj⟩
            go_wp2_with fail
            refine hK.out _ _ (grownBy_trans (show WE.grownBy _ none from hH) gj) (fun hagj => ?_)
            clear hK K
            try simp only [Act.put, List.setIfInBounds_toArray, List.set_cons_zero, List.set_cons_succ]
            refine stake_an 10 134 (v := ?va10) rfl rfl (by kernel_rfl) (by kernel_rfl) (by kernel_rfl) (fun _ _ _ h => h) (by rfl) ?ya10 hagj ?ra10
            case ya10 => (intro w _; go_simp; try with_reducible rfl)
            try simp only [Act.put, List.setIfInBounds_toArray, List.set_cons_zero, List.set_cons_succ]
            refine stake_an 11 135 (v := ?va11) rfl rfl (by kernel_rfl) (by kernel_rfl) (by kernel_rfl) (fun _ _ _ h => h) (by rfl) ?ya11 hagj ?ra11
            case ya11 => (intro w _; go_simp; try with_reducible rfl)
            try simp only [Act.put, List.setIfInBounds_toArray, List.set_cons_zero, List.set_cons_succ]
            refine stake_an 12 136 (v := ?va12) rfl rfl (by kernel_rfl) (by kernel_rfl) (by kernel_rfl) (fun _ _ _ h => h) (by rfl) ?ya12 hagj ?ra12
            case ya12 => (intro w _; go_simp; try with_reducible rfl)
            try simp only [Act.put, List.setIfInBounds_toArray, List.set_cons_zero, List.set_cons_succ]
            refine stake_an 13 137 (v := ?va13) rfl rfl (by kernel_rfl) (by kernel_rfl) (by kernel_rfl) (fun _ _ _ h => h) (by rfl) ?ya13 hagj ?ra13
            case ya13 => (intro w hg; obtain ⟨x0, x1, x2⟩ := KS.out w hg; go_simp; try with_reducible rfl)
            try simp only [Act.put, List.setIfInBounds_toArray, List.set_cons_zero, List.set_cons_succ]
            refine wpAnyH_ready (rs := [14]) (by kernel_rfl) (by simp) ?_
            refine AllReadyH.cons rfl (fun K hK => ?_) AllReadyH.nil
            go_simp
            refine (cO _ (grownBy_trans G5b.out hagj)).mono ?_
            rintro e wagk ⟨rfl, gk⟩
            go_wp2_with fail
            refine hK.out _ _ (grownBy_trans (show WE.grownBy _ none from hagj) gk) (fun hagk => ?_)
            clear hK K
            try simp only [Act.put, List.setIfInBounds_toArray, List.set_cons_zero, List.set_cons_succ]
            refine stake_an 15 139 (v := ?va14) rfl rfl (by kernel_rfl) (by kernel_rfl) (by kernel_rfl) (fun _ _ _ h => h) (by rfl) ?ya14 hagk ?ra14
            case ya14 => (intro w _; go_simp; try with_reducible rfl)
            try simp only [Act.put, List.setIfInBounds_toArray, List.set_cons_zero, List.set_cons_succ]
            refine stake_an 16 140 (v := ?va15) rfl rfl (by kernel_rfl) (by kernel_rfl) (by kernel_rfl) (fun _ _ _ h => h) (by rfl) ?ya15 hagk ?ra15
            case ya15 => (intro w _; go_simp; try with_reducible rfl)
            try simp only [Act.put, List.setIfInBounds_toArray, List.set_cons_zero, List.set_cons_succ]
            refine sdrop_an 17 141 rfl rfl (by kernel_rfl) (by kernel_rfl) (by kernel_rfl) (fun _ _ _ h => h) (by rfl) hagk ?_
            try simp only [Act.put, List.setIfInBounds_toArray, List.set_cons_zero, List.set_cons_succ]
            refine sdrop_an 18 142 rfl rfl (by kernel_rfl) (by kernel_rfl) (by kernel_rfl) (fun _ _ _ h => h) (by rfl) hagk ?_
            try simp only [Act.put, List.setIfInBounds_toArray, List.set_cons_zero, List.set_cons_succ]
            refine sdrop_an 19 143 rfl rfl (by kernel_rfl) (by kernel_rfl) (by kernel_rfl) (fun _ _ _ h => h) (by rfl) hagk ?_
            try simp only [Act.put, List.setIfInBounds_toArray, List.set_cons_zero, List.set_cons_succ]
            refine stake_an 20 144 (v := ?va16) rfl rfl (by kernel_rfl) (by kernel_rfl) (by kernel_rfl) (fun _ _ _ h => h) (by rfl) ?ya16 hagk ?ra16
            case ya16 => (intro w _; go_simp; try with_reducible rfl)
            try simp only [Act.put, List.setIfInBounds_toArray, List.set_cons_zero, List.set_cons_succ]
            refine stake_an 21 145 (v := ?va17) rfl rfl (by kernel_rfl) (by kernel_rfl) (by kernel_rfl) (fun _ _ _ h => h) (by rfl) ?ya17 hagk ?ra17
            case ya17 => (intro w _; go_simp; try with_reducible rfl)
            try simp only [Act.put, List.setIfInBounds_toArray, List.set_cons_zero, List.set_cons_succ]
            refine sdrop_an 22 146 rfl rfl (by kernel_rfl) (by kernel_rfl) (by kernel_rfl) (fun _ _ _ h => h) (by rfl) hagk ?_
            try simp only [Act.put, List.setIfInBounds_toArray, List.set_cons_zero, List.set_cons_succ]
            refine sdrop_an 23 147 rfl rfl (by kernel_rfl) (by kernel_rfl) (by kernel_rfl) (fun _ _ _ h => h) (by rfl) hagk ?_
            try simp only [Act.put, List.setIfInBounds_toArray, List.set_cons_zero, List.set_cons_succ]
            refine sdrop_an 24 148 rfl rfl (by kernel_rfl) (by kernel_rfl) (by kernel_rfl) (fun _ _ _ h => h) (by rfl) hagk ?_
            try simp only [Act.put, List.setIfInBounds_toArray, List.set_cons_zero, List.set_cons_succ]
            refine stake_an 25 149 (v := ?va18) rfl rfl (by kernel_rfl) (by kernel_rfl) (by kernel_rfl) (fun _ _ _ h => h) (by rfl) ?ya18 hagk ?ra18
            case ya18 => (intro w _; go_simp; try with_reducible rfl)
            try simp only [Act.put, List.setIfInBounds_toArray, List.set_cons_zero, List.set_cons_succ]
            refine stake_an 26 150 (v := ?va19) rfl rfl (by kernel_rfl) (by kernel_rfl) (by kernel_rfl) (fun _ _ _ h => h) (by rfl) ?ya19 hagk ?ra19
            case ya19 => (intro w _; go_simp; try with_reducible rfl)
            try simp only [Act.put, List.setIfInBounds_toArray, List.set_cons_zero, List.set_cons_succ]
            refine stake_an 27 151 (v := ?va20) rfl rfl (by kernel_rfl) (by kernel_rfl) (by kernel_rfl) (fun _ _ _ h => h) (by rfl) ?ya20 hagk ?ra20
            case ya20 => (intro w _; go_simp; try with_reducible rfl)
            try simp only [Act.put, List.setIfInBounds_toArray, List.set_cons_zero, List.set_cons_succ]
            refine wpAnyH_ready (rs := [28]) (by kernel_rfl) (by simp) ?_
            refine AllReadyH.cons rfl (fun K hK => ?_) AllReadyH.nil
            go_simp
            refine (alive_any _).mono ?_
            rintro e w' ⟨rfl, rfl⟩
            go_wp2_with fail
            refine hK.out _ _ hagk (fun hZ => ?_)
            clear hK K
            try simp only [Act.put, List.setIfInBounds_toArray, List.set_cons_zero, List.set_cons_succ]
            refine stake_an 29 153 (v := ?va21) rfl rfl (by kernel_rfl) (by kernel_rfl) (by kernel_rfl) (fun _ _ _ h => h) (by rfl) ?ya21 hZ ?ra21
            case ya21 => (intro w _; go_simp; try with_reducible rfl)
            try simp only [Act.put, List.setIfInBounds_toArray, List.set_cons_zero, List.set_cons_succ]
            refine stake_an 30 4 (v := ?va22) rfl rfl (by kernel_rfl) (by kernel_rfl) (by kernel_rfl) (fun _ _ _ h => h) (by rfl) ?ya22 hZ ?ra22
            case ya22 => (intro w _; go_simp; try with_reducible rfl)
            try simp only [Act.put, List.setIfInBounds_toArray, List.set_cons_zero, List.set_cons_succ]
            refine wpAnyH_done (by kernel_rfl) ?_ _
            refine NoPanic.normal ?_
            go_wp2_with fail
            go_ret
            exact ⟨rfl, below_of (grownBy_trans GA.out (grownBy_trans G5b.out hZ))⟩
          · have hm1 : ¬ (0 < m.length) := by omega
            clear hm0
            obtain ⟨⟨⟨⟨pe, se⟩, ye⟩, ne⟩, hRR⟩ : ∃ R, R = runR ((p, s), xs) m := ⟨_, rfl⟩
            have cR : ∀ W, WA.grownBy W none → Calls Tryz.prog 16 #[.agg #[.int .i64 p, .string (bs s), .slice a xs.length c], .slice ax m.length cx] W fun e w' => ∃ a' cap', e = .returned (.tuple #[.agg #[.int .i64 pe, .string (bs se), .slice a' ye.length cap'], .int .i64 (ne : Int)]) ∧ OwnL w' W.heap.size a' ye ∧ (a' = none → cap' = 0) ∧ W.grownBy w' none := fun W hg => by
              have := irun_any ((p, s), xs) m a ax c cx W (HX.out.grown hg) h0 (OXA.out.at.grown hg) (fun x hx => by have := HTx.out x hx; omega)
              rw [← hRR] at this
              exact this
            clear hRR
            obtain ⟨E, hE⟩ : ∃ E, E = S.extract 0 n := ⟨_, rfl⟩
            have hnS : n ≤ S.size := by rw [hSz.out]; exact HR.out.2.1
            have r2 := sl_lo S n hnS
            rw [← hE] at r2
            have cJ : ∀ W, WA.grownBy W none → Calls Tryz.prog 17 #[.slice ax m.length cx] W fun e w' => e = .returned (.string E) ∧ W.grownBy w' none := fun W hg => by
              have := ijt_any m (by have := hml.out; omega) ax cx W (OXA.out.at.grown hg) (HT.out.1.grown (grownBy_trans GA.out hg))
              unfold JtPost at this
              rw [HR.out.1, ← sj_take, ← HS.out, ← hE] at this
              exact this
            have hn1 : (n : Int) ≤ (S.size : Int) := by omega
            clear hE hnS
            obtain ⟨d0, d1, d2⟩ := (HA.out.grown GN.out).three
            go_wp2_with fail
            refine (cR wr GN.out).mono ?_
            rintro e we ⟨a5, c5, rfl, o5, z5, g5⟩
            have gE := World.grownBy_alloc we (.cells #[.int .i64 pe, .string (bs se), .slice a5 ye.length c5] 32) none
            have G5b := Lib.hid (grownBy_trans GN.out (grownBy_trans g5 gE))
            clear o5 g5 gE cR z5 d0 d1 d2
            go_wp2_with fail
            generalize we.alloc (.cells #[.int .i64 pe, .string (bs se), .slice a5 ye.length c5] 32) = WE at *
            generalize we.heap.size = b5 at *
            have KS : Hid (∀ w', WE.grownBy w' none → w'.cell? ⟨b1, 0, none⟩ = some (.int .i64 p) ∧ w'.cell? ⟨b1, 1, none⟩ = some (.string (bs s)) ∧ w'.cell? ⟨b1, 2, none⟩ = some (.slice a xs.length c)) := Lib.hid fun w' g => ⟨(HA.out.grown (grownBy_trans G5b.out g)).three.1, (HA.out.grown (grownBy_trans G5b.out g)).three.2.1, (HA.out.grown (grownBy_trans G5b.out g)).three.2.2⟩
            refine wp_region_noPanic ?_
            refine wp_region_held_drew (S := fun w' => WE.grownBy w' none) (by kernel_rfl) (grownBy_drew (grownBy_refl _ none)) (fun hH => ?_)
            refine stake_an 0 124 (v := ?vd1) rfl rfl (by kernel_rfl) (by kernel_rfl) (by kernel_rfl) (fun _ _ _ h => h) (by rfl) ?yd1 hH ?rd1
            case yd1 => (intro w _; go_simp; try with_reducible rfl)
            try simp only [Act.put, List.setIfInBounds_toArray, List.set_cons_zero, List.set_cons_succ]
            refine stake_an 1 125 (v := ?vd2) rfl rfl (by kernel_rfl) (by kernel_rfl) (by kernel_rfl) (fun _ _ _ h => h) (by rfl) ?yd2 hH ?rd2
            case yd2 => (intro w _; go_simp; try with_reducible rfl)
            try simp only [Act.put, List.setIfInBounds_toArray, List.set_cons_zero, List.set_cons_succ]
            refine stake_an 2 126 (v := ?vd3) rfl rfl (by kernel_rfl) (by kernel_rfl) (by kernel_rfl) (fun _ _ _ h => h) (by rfl) ?yd3 hH ?rd3
            case yd3 => (intro w _; go_simp; try with_reducible rfl)
            try simp only [Act.put, List.setIfInBounds_toArray, List.set_cons_zero, List.set_cons_succ]
            refine stake_an 3 127 (v := ?vd4) rfl rfl (by kernel_rfl) (by kernel_rfl) (by kernel_rfl) (fun _ _ _ h => h) (by rfl) ?yd4 hH ?rd4
            case yd4 => (intro w _; go_simp; try with_reducible rfl)
            try simp only [Act.put, List.setIfInBounds_toArray, List.set_cons_zero, List.set_cons_succ]
            refine stake_an 4 128 (v := ?vd5) rfl rfl (by kernel_rfl) (by kernel_rfl) (by kernel_rfl) (fun _ _ _ h => h) (by rfl) ?yd5 hH ?rd5
            case yd5 => (intro w _; go_simp; try with_reducible rfl)
            try simp only [Act.put, List.setIfInBounds_toArray, List.set_cons_zero, List.set_cons_succ]
            refine stake_an 5 129 (v := ?vd6) rfl rfl (by kernel_rfl) (by kernel_rfl) (by kernel_rfl) (fun _ _ _ h => h) (by rfl) ?yd6 hH ?rd6
            case yd6 => (intro w _; go_simp; try with_reducible rfl)
            try simp only [Act.put, List.setIfInBounds_toArray, List.set_cons_zero, List.set_cons_succ]
            refine stake_an 7 131 (v := ?vd7) rfl rfl (by kernel_rfl) (by kernel_rfl) (by kernel_rfl) (fun _ _ _ h => h) (by rfl) ?yd7 hH ?rd7
            case yd7 => (intro w _; go_simp; try with_reducible rfl)
            try simp only [Act.put, List.setIfInBounds_toArray, List.set_cons_zero, List.set_cons_succ]
            refine stake_an 8 132 (v := ?vd8) rfl rfl (by kernel_rfl) (by kernel_rfl) (by kernel_rfl) (fun _ _ _ h => h) (by rfl) ?yd8 hH ?rd8
            case yd8 => (intro w _; go_simp; try with_reducible rfl)
            try simp only [Act.put, List.setIfInBounds_toArray, List.set_cons_zero, List.set_cons_succ]
            refine stake_an 9 133 (v := ?vd9) rfl rfl (by kernel_rfl) (by kernel_rfl) (by kernel_rfl) (fun _ _ _ h => h) (by rfl) ?yd9 hH ?rd9
            case yd9 => (intro w _; go_simp; try with_reducible rfl)
            try simp only [Act.put, List.setIfInBounds_toArray, List.set_cons_zero, List.set_cons_succ]
            refine wpAnyH_ready (rs := [6]) (by kernel_rfl) (by simp) ?_
            refine AllReadyH.cons rfl (fun K hK => ?_) AllReadyH.nil
            go_simp
            refine (cJ _ (grownBy_trans G5b.out hH)).mono ?_
            rintro e wdgj ⟨rfl, gj⟩
            go_wp2_with fail
            refine hK.out _ _ (grownBy_trans (show WE.grownBy _ none from hH) gj) (fun hdgj => ?_)
            clear hK K
            try simp only [Act.put, List.setIfInBounds_toArray, List.set_cons_zero, List.set_cons_succ]
            refine stake_an 10 134 (v := ?vd10) rfl rfl (by kernel_rfl) (by kernel_rfl) (by kernel_rfl) (fun _ _ _ h => h) (by rfl) ?yd10 hdgj ?rd10
            case yd10 => (intro w _; go_simp; try with_reducible rfl)
            try simp only [Act.put, List.setIfInBounds_toArray, List.set_cons_zero, List.set_cons_succ]
            refine stake_an 11 135 (v := ?vd11) rfl rfl (by kernel_rfl) (by kernel_rfl) (by kernel_rfl) (fun _ _ _ h => h) (by rfl) ?yd11 hdgj ?rd11
            case yd11 => (intro w _; go_simp; try with_reducible rfl)
            try simp only [Act.put, List.setIfInBounds_toArray, List.set_cons_zero, List.set_cons_succ]
            refine stake_an 12 136 (v := ?vd12) rfl rfl (by kernel_rfl) (by kernel_rfl) (by kernel_rfl) (fun _ _ _ h => h) (by rfl) ?yd12 hdgj ?rd12
            case yd12 => (intro w _; go_simp; try with_reducible rfl)
            try simp only [Act.put, List.setIfInBounds_toArray, List.set_cons_zero, List.set_cons_succ]
            refine stake_an 13 137 (v := ?vd13) rfl rfl (by kernel_rfl) (by kernel_rfl) (by kernel_rfl) (fun _ _ _ h => h) (by rfl) ?yd13 hdgj ?rd13
            case yd13 => (intro w hg; obtain ⟨x0, x1, x2⟩ := KS.out w hg; go_simp; try with_reducible rfl)
            try simp only [Act.put, List.setIfInBounds_toArray, List.set_cons_zero, List.set_cons_succ]
            refine wpAnyH_ready (rs := [14]) (by kernel_rfl) (by simp) ?_
            refine AllReadyH.cons rfl (fun K hK => ?_) AllReadyH.nil
            go_simp
            refine (cO _ (grownBy_trans G5b.out hdgj)).mono ?_
            rintro e wdgk ⟨rfl, gk⟩
            go_wp2_with fail
            refine hK.out _ _ (grownBy_trans (show WE.grownBy _ none from hdgj) gk) (fun hdgk => ?_)
            clear hK K
            try simp only [Act.put, List.setIfInBounds_toArray, List.set_cons_zero, List.set_cons_succ]
            refine stake_an 15 139 (v := ?vd14) rfl rfl (by kernel_rfl) (by kernel_rfl) (by kernel_rfl) (fun _ _ _ h => h) (by rfl) ?yd14 hdgk ?rd14
            case yd14 => (intro w _; go_simp; try with_reducible rfl)
            try simp only [Act.put, List.setIfInBounds_toArray, List.set_cons_zero, List.set_cons_succ]
            refine stake_an 16 140 (v := ?vd15) rfl rfl (by kernel_rfl) (by kernel_rfl) (by kernel_rfl) (fun _ _ _ h => h) (by rfl) ?yd15 hdgk ?rd15
            case yd15 => (intro w _; go_simp; try with_reducible rfl)
            try simp only [Act.put, List.setIfInBounds_toArray, List.set_cons_zero, List.set_cons_succ]
            refine sdrop_an 17 141 rfl rfl (by kernel_rfl) (by kernel_rfl) (by kernel_rfl) (fun _ _ _ h => h) (by rfl) hdgk ?_
            try simp only [Act.put, List.setIfInBounds_toArray, List.set_cons_zero, List.set_cons_succ]
            refine sdrop_an 18 142 rfl rfl (by kernel_rfl) (by kernel_rfl) (by kernel_rfl) (fun _ _ _ h => h) (by rfl) hdgk ?_
            try simp only [Act.put, List.setIfInBounds_toArray, List.set_cons_zero, List.set_cons_succ]
            refine sdrop_an 19 143 rfl rfl (by kernel_rfl) (by kernel_rfl) (by kernel_rfl) (fun _ _ _ h => h) (by rfl) hdgk ?_
            try simp only [Act.put, List.setIfInBounds_toArray, List.set_cons_zero, List.set_cons_succ]
            refine stake_an 20 144 (v := ?vd16) rfl rfl (by kernel_rfl) (by kernel_rfl) (by kernel_rfl) (fun _ _ _ h => h) (by rfl) ?yd16 hdgk ?rd16
            case yd16 => (intro w _; go_simp; try with_reducible rfl)
            try simp only [Act.put, List.setIfInBounds_toArray, List.set_cons_zero, List.set_cons_succ]
            refine stake_an 21 145 (v := ?vd17) rfl rfl (by kernel_rfl) (by kernel_rfl) (by kernel_rfl) (fun _ _ _ h => h) (by rfl) ?yd17 hdgk ?rd17
            case yd17 => (intro w _; go_simp; try with_reducible rfl)
            try simp only [Act.put, List.setIfInBounds_toArray, List.set_cons_zero, List.set_cons_succ]
            refine sdrop_an 22 146 rfl rfl (by kernel_rfl) (by kernel_rfl) (by kernel_rfl) (fun _ _ _ h => h) (by rfl) hdgk ?_
            try simp only [Act.put, List.setIfInBounds_toArray, List.set_cons_zero, List.set_cons_succ]
            refine sdrop_an 23 147 rfl rfl (by kernel_rfl) (by kernel_rfl) (by kernel_rfl) (fun _ _ _ h => h) (by rfl) hdgk ?_
            try simp only [Act.put, List.setIfInBounds_toArray, List.set_cons_zero, List.set_cons_succ]
            refine sdrop_an 24 148 rfl rfl (by kernel_rfl) (by kernel_rfl) (by kernel_rfl) (fun _ _ _ h => h) (by rfl) hdgk ?_
            try simp only [Act.put, List.setIfInBounds_toArray, List.set_cons_zero, List.set_cons_succ]
            refine stake_an 25 149 (v := ?vd18) rfl rfl (by kernel_rfl) (by kernel_rfl) (by kernel_rfl) (fun _ _ _ h => h) (by rfl) ?yd18 hdgk ?rd18
            case yd18 => (intro w _; go_simp; try with_reducible rfl)
            try simp only [Act.put, List.setIfInBounds_toArray, List.set_cons_zero, List.set_cons_succ]
            refine stake_an 26 150 (v := ?vd19) rfl rfl (by kernel_rfl) (by kernel_rfl) (by kernel_rfl) (fun _ _ _ h => h) (by rfl) ?yd19 hdgk ?rd19
            case yd19 => (intro w _; go_simp; try with_reducible rfl)
            try simp only [Act.put, List.setIfInBounds_toArray, List.set_cons_zero, List.set_cons_succ]
            refine stake_an 27 151 (v := ?vd20) rfl rfl (by kernel_rfl) (by kernel_rfl) (by kernel_rfl) (fun _ _ _ h => h) (by rfl) ?yd20 hdgk ?rd20
            case yd20 => (intro w _; go_simp; try with_reducible rfl)
            try simp only [Act.put, List.setIfInBounds_toArray, List.set_cons_zero, List.set_cons_succ]
            refine wpAnyH_ready (rs := [28]) (by kernel_rfl) (by simp) ?_
            refine AllReadyH.cons rfl (fun K hK => ?_) AllReadyH.nil
            go_simp
            refine (alive_any _).mono ?_
            rintro e w' ⟨rfl, rfl⟩
            go_wp2_with fail
            refine hK.out _ _ hdgk (fun hZ => ?_)
            clear hK K
            try simp only [Act.put, List.setIfInBounds_toArray, List.set_cons_zero, List.set_cons_succ]
            refine stake_an 29 153 (v := ?vd21) rfl rfl (by kernel_rfl) (by kernel_rfl) (by kernel_rfl) (fun _ _ _ h => h) (by rfl) ?yd21 hZ ?rd21
            case yd21 => (intro w _; go_simp; try with_reducible rfl)
            try simp only [Act.put, List.setIfInBounds_toArray, List.set_cons_zero, List.set_cons_succ]
            refine stake_an 30 4 (v := ?vd22) rfl rfl (by kernel_rfl) (by kernel_rfl) (by kernel_rfl) (fun _ _ _ h => h) (by rfl) ?yd22 hZ ?rd22
            case yd22 => (intro w _; go_simp; try with_reducible rfl)
            try simp only [Act.put, List.setIfInBounds_toArray, List.set_cons_zero, List.set_cons_succ]
            refine wpAnyH_done (by kernel_rfl) ?_ _
            refine NoPanic.normal ?_
            go_wp2_with fail
            go_ret
            exact ⟨rfl, below_of (grownBy_trans GA.out (grownBy_trans G5b.out hZ))⟩
      · rw [hdk] at cO
        have hI := HI.out hdk
        go_loopw [16] (fun kv wr => NowI WA b2 ((p, s), xs) m kv wr) (fun kv _ => m.length - (intOf kv).toNat)
        case atStart => exact ⟨0, 0, ((p, s), xs), a, c, by omega, rfl, hI⟩
        case round =>
          obtain ⟨k2, nn, ⟨⟨p1, s1⟩, ys⟩, ae, ce, hk2, rfl, hN⟩ := hrel
          have HN := Lib.hid hN
          clear hN hI
          have gN := HN.out.2.2.2.2.2.2.1
          obtain ⟨d0, d1, d2⟩ := (HA.out.grown gN).three
          have GN := Lib.hid gN
          clear gN
          by_cases hlt : k2 < m.length
          · go_wp2_with fail
            refine (cO wr GN.out).mono ?_
            rintro e wq ⟨rfl, gq⟩
            have HNq := Lib.hid (HN.out.grown gq)
            have GNq := Lib.hid (grownBy_trans GN.out gq)
            clear gq HN d0 d1 d2
            rcases (OXA.out.at.grown GNq.out).2 with z | ⟨bx, ox, hax, _, hcx⟩
            · rw [z] at hlt; simp at hlt
            obtain ⟨k0, k1, k3⟩ := hcx k2 hlt
            clear hcx
            obtain ⟨D, hD⟩ : ∃ D, D = m.getD k2 nilDd := ⟨_, rfl⟩
            have htold := HR.out.2.2 k2 hlt
            have hDl : D.2.2.length ≤ 66 := by rw [hD]; exact HTx.out _ (getDd_mem hlt)
            rw [← hD] at htold k0 k1 k3
            obtain ⟨⟨⟨⟨p2, s2⟩, ys2⟩, ok⟩, hRo⟩ : ∃ R, R = doR ((p1, s1), ys) D := ⟨_, rfl⟩
            have hst := run_step hlt HNq.out.1 HNq.out.2.1 (show doR ((p1, s1), ys) (m.getD k2 nilDd) = (((p2, s2), ys2), ok) by rw [← hD]; exact hRo.symm)
            have HSt := Lib.hid (show runD ((p, s), xs) (m.take (k2 + 1)) = (((p2, s2), ys2), cond ok (nn + 1) nn) ∧ dkB ((p2, s2), ys2) = true from ⟨hst.1, hst.2.1⟩)
            have cd : ∀ W, LdsAt W ae ys → WdAt W ∧ ErAt W → Calls Tryz.prog 14 #[.agg #[.int .i64 p1, .string (bs s1), .slice ae ys.length ce], .string (bs (txD D))] W fun e w' => ∃ a' cap', e = .returned (.tuple #[.agg #[.int .i64 p2, .string (bs s2), .slice a' ys2.length cap'], .string (okT ok)]) ∧ OwnL w' W.heap.size a' ys2 ∧ (a' = none → cap' = 0) ∧ W.grownBy w' none := fun W hW hT2 => by
              have := idl_deed p1 s1 ys D (txD D) ae ce W htold (Nat.le_trans (tx_len D) (by decide)) (by omega) hW HNq.out.2.2.2.2.2.1 HNq.out.2.1 hT2
              rw [← hRo] at this
              exact this
            have ct := fun W => itx_v D.1 D.2.1 D.2.2 (bs (txD D)) rfl W
            have HWd := Lib.hid (show WdAt wq ∧ ErAt wq from ⟨HT.out.1.grown (grownBy_trans GA.out GNq.out), HT.out.2.grown (grownBy_trans GA.out GNq.out)⟩)
            clear hst hRo hD htold hDl
            generalize bs (txD D) = U at *
            cases hax
            have KS : Hid (∀ w', wq.grownBy w' none → w'.cell? ⟨b2, 0, none⟩ = some (.int .i64 p1) ∧ w'.cell? ⟨b2, 1, none⟩ = some (.string (bs s1)) ∧ w'.cell? ⟨b2, 2, none⟩ = some (.slice ae ys.length ce) ∧ w'.cell? ⟨bx, ox + k2 * 3, none⟩ = some (.int .i64 D.1) ∧ w'.cell? ⟨bx, ox + k2 * 3 + 1, none⟩ = some (.int .i64 D.2.1) ∧ w'.cell? ⟨bx, ox + k2 * 3 + 2, none⟩ = some (.string (bs D.2.2)) ∧ wq.grownBy w' none) := Lib.hid fun w' g => ⟨(HNq.out.2.2.1.grown g).three.1, (HNq.out.2.2.1.grown g).three.2.1, (HNq.out.2.2.1.grown g).three.2.2, g.cell k0 (by simp), g.cell k1 (by simp), g.cell k3 (by simp), g⟩
            clear k0 k1 k3
            have lbb := HNq.out.lt
            have HL1 := Lib.hid (show LdsAt wq ae ys from HNq.out.2.2.2.1)
            go_wp2_with fail
            go_cut [17, 18] from 101 to 111 (fun pv bv wc => GotV wq p2 s2 ys2 (.string (okT ok)) pv bv wc)
            case first =>
              go_region_held3 (fun w' => w'.cell? ⟨b2, 0, none⟩ = some (.int .i64 p1) ∧ w'.cell? ⟨b2, 1, none⟩ = some (.string (bs s1)) ∧ w'.cell? ⟨b2, 2, none⟩ = some (.slice ae ys.length ce) ∧ w'.cell? ⟨bx, ox + k2 * 3, none⟩ = some (.int .i64 D.1) ∧ w'.cell? ⟨bx, ox + k2 * 3 + 1, none⟩ = some (.int .i64 D.2.1) ∧ w'.cell? ⟨bx, ox + k2 * 3 + 2, none⟩ = some (.string (bs D.2.2)) ∧ wq.grownBy w' none) (first | exact KS.out _ (grownBy_drew (grownBy_refl _ none)) | exact KS.out _ (grownBy_trans (lastS7 (by assumption)) gt) | exact KS.out _ (grownBy_trans (lastS7 (by assumption)) gd) | exact KS.out _ (grownBy_trans (lastS7 (by assumption)) (World.grownBy_alloc _ _ none)) | exact KS.out _ (grownBy_trans G3.out (World.grownBy_alloc _ _ none)) | exact KS.out _ (put3_grown _ G3.out (by exact Nat.le_refl _) _ _ _) | exact KS.out _ (put3_grown _ G3.out GT.out.size _ _ _) | exact KS.out _ (put3_grown _ (grownBy_trans G3.out (World.grownBy_alloc _ _ none)) G3.out.size _ _ _)) (first | (go_at_call 15; (with_reducible refine (ct _ (HWd.out.1.grown (lastS7 (by assumption)))).mono ?_); rintro e wt ⟨rfl, gt⟩; have GT := Lib.hid (grownBy_trans (lastS7 (by assumption)) gt); (first | (with_reducible have HZ0 := Lib.hid (zero_1 (drew_grown gt))) | (with_reducible have HZ0 := Lib.hid (zero_1 gt)) | skip)) | (go_at_call 14; (with_reducible refine (cd _ (HL1.out.grown (lastS7 (by assumption))) ⟨HWd.out.1.grown (lastS7 (by assumption)), HWd.out.2.grown (lastS7 (by assumption))⟩).mono ?_); rintro e wd ⟨a3, c3, rfl, o3, z3, gd⟩; have G3 := Lib.hid (grownBy_trans (lastS7 (by assumption)) gd); have OW := Lib.hid (o3.mono (base' := wq.heap.size) (sizeS7 (by assumption))); have HNN := Lib.hid (CellsAt.new wd #[.int .i64 0, .string ⟨#[]⟩, .slice none 0 0] 32); obtain ⟨⟨n0, n1, n2⟩, n3, n4, n5⟩ := dk_facts HNN.out; have nl := HNN.out.lt; (first | (with_reducible have HZ := Lib.hid (HZ0.out.grown gd); obtain ⟨⟨q0, q1, q2⟩, j0, j1, j2⟩ := dk_facts HZ.out; have zl := HZ.out.lt) | (with_reducible have HZ := Lib.hid (zero_1 gd); obtain ⟨⟨q0, q1, q2⟩, j0, j1, j2⟩ := dk_facts HZ.out; have zl := HZ.out.lt) | skip)))
              all_goals go_wp2_with fail
              all_goals go_meet
              all_goals first | with_reducible exact gotV_new OW.out z3 (Nat.le_refl _) G3.out | with_reducible exact gotV_old (OW.out.kept (World.grownBy_alloc _ _ none)) z3 (Nat.le_refl _) (grownBy_trans G3.out (World.grownBy_alloc _ _ none)) HNN.out G3.out.size | with_reducible exact gotV_old OW.out z3 (Nat.le_refl _) G3.out HZ.out (Nat.le_refl _) | with_reducible exact gotV_old OW.out z3 (Nat.le_refl _) G3.out HZ.out GT.out.size | (trace_state; fail)
            case rest =>
              obtain ⟨c', a3, c3, rfl, rfl, hcs, hC, o3, z3, hg3⟩ := hcut
              have hm1000 := hml.out
              have HB4 := Lib.hid (show CellsAt wc b2 #[.int .i64 p1, .string (bs s1), .slice ae ys.length ce] 32 from HNq.out.2.2.1.grown hg3)
              have HNx := Lib.hid (HNq.out.next hg3 HSt.out o3 z3)
              obtain ⟨⟨y0, y1, y2⟩, v0, v1, v2⟩ := dk_facts HB4.out
              obtain ⟨x0, x1, x2⟩ := hC.three
              clear o3 hg3 hC cd
              cases ok
              · rw [show okT false = (⟨#[110, 111, 116]⟩ : ByteArray) from rfl]
                go_wp2_with fail
                go_roundw
                case rel => exact ⟨k2 + 1, _, ((p2, s2), ys2), a3, c3, by omega, by go_num, HNx.out⟩
                case measure => simp [intOf]; omega
              · rw [show okT true = (⟨#[111, 107]⟩ : ByteArray) from rfl]
                go_wp2_with fail
                go_roundw
                case rel => exact ⟨k2 + 1, _, ((p2, s2), ys2), a3, c3, by omega, by go_num, HNx.out⟩
                case measure => simp [intOf]; omega
          · obtain rfl : k2 = m.length := by omega
            have hrun := HN.out.1
            rw [List.take_length] at hrun
            have HRun := Lib.hid hrun
            have HBn := Lib.hid (show CellsAt wr b2 #[.int .i64 p1, .string (bs s1), .slice ae ys.length ce] 32 from HN.out.2.2.1)
            have HLn := Lib.hid (show LdsAt wr ae ys from HN.out.2.2.2.1)
            clear hrun HN
            obtain ⟨⟨⟨⟨pe, se⟩, ye⟩, ne⟩, hRR⟩ : ∃ R, R = runR ((p, s), xs) m := ⟨_, rfl⟩
            have HRR := Lib.hid hRR
            have cR : ∀ W, WA.grownBy W none → Calls Tryz.prog 16 #[.agg #[.int .i64 p, .string (bs s), .slice a xs.length c], .slice ax m.length cx] W fun e w' => ∃ a' cap', e = .returned (.tuple #[.agg #[.int .i64 pe, .string (bs se), .slice a' ye.length cap'], .int .i64 (ne : Int)]) ∧ OwnL w' W.heap.size a' ye ∧ (a' = none → cap' = 0) ∧ W.grownBy w' none := fun W hg => by
              have := irun_any ((p, s), xs) m a ax c cx W (HX.out.grown hg) h0 (OXA.out.at.grown hg) (fun x hx => by have := HTx.out x hx; omega)
              rw [← hRR] at this
              exact this
            clear hRR
            obtain ⟨E, hE⟩ : ∃ E, E = S.extract 0 n := ⟨_, rfl⟩
            have hnS : n ≤ S.size := by rw [hSz.out]; exact HR.out.2.1
            have r2 := sl_lo S n hnS
            rw [← hE] at r2
            have cJ : ∀ W, WA.grownBy W none → Calls Tryz.prog 17 #[.slice ax m.length cx] W fun e w' => e = .returned (.string E) ∧ W.grownBy w' none := fun W hg => by
              have := ijt_any m (by have := hml.out; omega) ax cx W (OXA.out.at.grown hg) (HT.out.1.grown (grownBy_trans GA.out hg))
              unfold JtPost at this
              rw [HR.out.1, ← sj_take, ← HS.out, ← hE] at this
              exact this
            have hn1 : (n : Int) ≤ (S.size : Int) := by omega
            clear hE hnS
            go_wp2_with fail
            refine (cR wr GN.out).mono ?_
            rintro e we ⟨a5, c5, rfl, o5, z5, g5⟩
            have gE := World.grownBy_alloc we (.cells #[.int .i64 pe, .string (bs se), .slice a5 ye.length c5] 32) none
            have HE5 := Lib.hid (CellsAt.new we #[.int .i64 pe, .string (bs se), .slice a5 ye.length c5] 32)
            have HL5 := Lib.hid (o5.at.grown gE)
            have HB5 := Lib.hid (HBn.out.grown (grownBy_trans g5 gE))
            have HLn5 := Lib.hid (HLn.out.grown (grownBy_trans g5 gE))
            have G5b := Lib.hid (grownBy_trans GN.out (grownBy_trans g5 gE))
            clear o5 g5 gE cR z5 d0 d1 d2
            unfold dkV at *
            go_wp2_with fail
            generalize we.alloc (.cells #[.int .i64 pe, .string (bs se), .slice a5 ye.length c5] 32) = WE at *
            generalize we.heap.size = b5 at *
            by_cases h40 : m.length ≤ 40
            · have hh : (((pe, se), ye), ne) = (((p1, s1), ys), nn) := by
                rw [HRR.out, runR_ok ⟨hdk, h40⟩, HRun.out]
              cases hh
              have h40' : decide ((40 : Int) < (m.length : Int)) = false := decide_eq_false (by omega)
              have cS : ∀ W, WE.grownBy W none → Calls Tryz.prog 18 #[.agg #[.int .i64 p1, .string (bs s1), .slice ae ys.length ce], .agg #[.int .i64 p1, .string (bs s1), .slice a5 ys.length c5]] W fun e w' => e = .returned (.bool true) ∧ W.grownBy w' none := fun W hg => same_self3 p1 s1 ys ae a5 ce c5 W (HLn5.out.grown hg) (HL5.out.grown hg)
              have KS : Hid (∀ w', WE.grownBy w' none → w'.cell? ⟨b1, 0, none⟩ = some (.int .i64 p) ∧ w'.cell? ⟨b1, 1, none⟩ = some (.string (bs s)) ∧ w'.cell? ⟨b1, 2, none⟩ = some (.slice a xs.length c) ∧ w'.cell? ⟨b2, 0, none⟩ = some (.int .i64 p1) ∧ w'.cell? ⟨b2, 1, none⟩ = some (.string (bs s1)) ∧ w'.cell? ⟨b2, 2, none⟩ = some (.slice ae ys.length ce) ∧ w'.cell? ⟨b5, 0, none⟩ = some (.int .i64 p1) ∧ w'.cell? ⟨b5, 1, none⟩ = some (.string (bs s1)) ∧ w'.cell? ⟨b5, 2, none⟩ = some (.slice a5 ys.length c5)) := Lib.hid fun w' g => ⟨(HA.out.grown (grownBy_trans G5b.out g)).three.1, (HA.out.grown (grownBy_trans G5b.out g)).three.2.1, (HA.out.grown (grownBy_trans G5b.out g)).three.2.2, (HB5.out.grown g).three.1, (HB5.out.grown g).three.2.1, (HB5.out.grown g).three.2.2, (HE5.out.grown g).three.1, (HE5.out.grown g).three.2.1, (HE5.out.grown g).three.2.2⟩
              refine wp_region_noPanic ?_
              refine wp_region_held_drew (S := fun w' => WE.grownBy w' none) (by kernel_rfl) (grownBy_drew (grownBy_refl _ none)) (fun hH => ?_)
              refine stake_an 0 124 (v := ?vc1) rfl rfl (by kernel_rfl) (by kernel_rfl) (by kernel_rfl) (fun _ _ _ h => h) (by rfl) ?yc1 hH ?rc1
              case yc1 => (intro w _; go_simp; try with_reducible rfl)
              try simp only [Act.put, List.setIfInBounds_toArray, List.set_cons_zero, List.set_cons_succ]
              refine stake_an 1 125 (v := ?vc2) rfl rfl (by kernel_rfl) (by kernel_rfl) (by kernel_rfl) (fun _ _ _ h => h) (by rfl) ?yc2 hH ?rc2
              case yc2 => (intro w _; go_simp; try with_reducible rfl)
              try simp only [Act.put, List.setIfInBounds_toArray, List.set_cons_zero, List.set_cons_succ]
              refine stake_an 2 126 (v := ?vc3) rfl rfl (by kernel_rfl) (by kernel_rfl) (by kernel_rfl) (fun _ _ _ h => h) (by rfl) ?yc3 hH ?rc3
              case yc3 => (intro w _; go_simp; try with_reducible rfl)
              try simp only [Act.put, List.setIfInBounds_toArray, List.set_cons_zero, List.set_cons_succ]
              refine stake_an 3 127 (v := ?vc4) rfl rfl (by kernel_rfl) (by kernel_rfl) (by kernel_rfl) (fun _ _ _ h => h) (by rfl) ?yc4 hH ?rc4
              case yc4 => (intro w _; go_simp; try with_reducible rfl)
              try simp only [Act.put, List.setIfInBounds_toArray, List.set_cons_zero, List.set_cons_succ]
              refine stake_an 4 128 (v := ?vc5) rfl rfl (by kernel_rfl) (by kernel_rfl) (by kernel_rfl) (fun _ _ _ h => h) (by rfl) ?yc5 hH ?rc5
              case yc5 => (intro w _; go_simp; try with_reducible rfl)
              try simp only [Act.put, List.setIfInBounds_toArray, List.set_cons_zero, List.set_cons_succ]
              refine stake_an 5 129 (v := ?vc6) rfl rfl (by kernel_rfl) (by kernel_rfl) (by kernel_rfl) (fun _ _ _ h => h) (by rfl) ?yc6 hH ?rc6
              case yc6 => (intro w _; go_simp; try with_reducible rfl)
              try simp only [Act.put, List.setIfInBounds_toArray, List.set_cons_zero, List.set_cons_succ]
              refine stake_an 7 131 (v := ?vc7) rfl rfl (by kernel_rfl) (by kernel_rfl) (by kernel_rfl) (fun _ _ _ h => h) (by rfl) ?yc7 hH ?rc7
              case yc7 => (intro w _; go_simp; try with_reducible rfl)
              try simp only [Act.put, List.setIfInBounds_toArray, List.set_cons_zero, List.set_cons_succ]
              refine stake_an 8 132 (v := ?vc8) rfl rfl (by kernel_rfl) (by kernel_rfl) (by kernel_rfl) (fun _ _ _ h => h) (by rfl) ?yc8 hH ?rc8
              case yc8 => (intro w _; go_simp; try with_reducible rfl)
              try simp only [Act.put, List.setIfInBounds_toArray, List.set_cons_zero, List.set_cons_succ]
              refine stake_an 9 133 (v := ?vc9) rfl rfl (by kernel_rfl) (by kernel_rfl) (by kernel_rfl) (fun _ _ _ h => h) (by rfl) ?yc9 hH ?rc9
              case yc9 => (intro w _; go_simp; try with_reducible rfl)
              try simp only [Act.put, List.setIfInBounds_toArray, List.set_cons_zero, List.set_cons_succ]
              refine wpAnyH_ready (rs := [6]) (by kernel_rfl) (by simp) ?_
              refine AllReadyH.cons rfl (fun K hK => ?_) AllReadyH.nil
              go_simp
              refine (cJ _ (grownBy_trans G5b.out hH)).mono ?_
              rintro e wcgj ⟨rfl, gj⟩
              go_wp2_with fail
              refine hK.out _ _ (grownBy_trans (show WE.grownBy _ none from hH) gj) (fun hcgj => ?_)
              clear hK K
              try simp only [Act.put, List.setIfInBounds_toArray, List.set_cons_zero, List.set_cons_succ]
              refine stake_an 10 134 (v := ?vc10) rfl rfl (by kernel_rfl) (by kernel_rfl) (by kernel_rfl) (fun _ _ _ h => h) (by rfl) ?yc10 hcgj ?rc10
              case yc10 => (intro w _; go_simp; try with_reducible rfl)
              try simp only [Act.put, List.setIfInBounds_toArray, List.set_cons_zero, List.set_cons_succ]
              refine stake_an 11 135 (v := ?vc11) rfl rfl (by kernel_rfl) (by kernel_rfl) (by kernel_rfl) (fun _ _ _ h => h) (by rfl) ?yc11 hcgj ?rc11
              case yc11 => (intro w _; go_simp; try with_reducible rfl)
              try simp only [Act.put, List.setIfInBounds_toArray, List.set_cons_zero, List.set_cons_succ]
              refine stake_an 12 136 (v := ?vc12) rfl rfl (by kernel_rfl) (by kernel_rfl) (by kernel_rfl) (fun _ _ _ h => h) (by rfl) ?yc12 hcgj ?rc12
              case yc12 => (intro w _; go_simp; try with_reducible rfl)
              try simp only [Act.put, List.setIfInBounds_toArray, List.set_cons_zero, List.set_cons_succ]
              refine stake_an 13 137 (v := ?vc13) rfl rfl (by kernel_rfl) (by kernel_rfl) (by kernel_rfl) (fun _ _ _ h => h) (by rfl) ?yc13 hcgj ?rc13
              case yc13 => (intro w hg; obtain ⟨x0, x1, x2, y0, y1, y2, z0, z1, z2⟩ := KS.out w hg; go_simp; try with_reducible rfl)
              try simp only [Act.put, List.setIfInBounds_toArray, List.set_cons_zero, List.set_cons_succ]
              refine wpAnyH_ready (rs := [14]) (by kernel_rfl) (by simp) ?_
              refine AllReadyH.cons rfl (fun K hK => ?_) AllReadyH.nil
              go_simp
              refine (cO _ (grownBy_trans G5b.out hcgj)).mono ?_
              rintro e wcgk ⟨rfl, gk⟩
              go_wp2_with fail
              refine hK.out _ _ (grownBy_trans (show WE.grownBy _ none from hcgj) gk) (fun hcgk => ?_)
              clear hK K
              try simp only [Act.put, List.setIfInBounds_toArray, List.set_cons_zero, List.set_cons_succ]
              refine stake_an 15 139 (v := ?vc14) rfl rfl (by kernel_rfl) (by kernel_rfl) (by kernel_rfl) (fun _ _ _ h => h) (by rfl) ?yc14 hcgk ?rc14
              case yc14 => (intro w _; go_simp; try with_reducible rfl)
              try simp only [Act.put, List.setIfInBounds_toArray, List.set_cons_zero, List.set_cons_succ]
              refine stake_an 16 140 (v := ?vc15) rfl rfl (by kernel_rfl) (by kernel_rfl) (by kernel_rfl) (fun _ _ _ h => h) (by rfl) ?yc15 hcgk ?rc15
              case yc15 => (intro w _; go_simp; try with_reducible rfl)
              try simp only [Act.put, List.setIfInBounds_toArray, List.set_cons_zero, List.set_cons_succ]
              refine stake_an 17 141 (v := ?vc16) rfl rfl (by kernel_rfl) (by kernel_rfl) (by kernel_rfl) (fun _ _ _ h => h) (by rfl) ?yc16 hcgk ?rc16
              case yc16 => (intro w _; go_simp; try with_reducible rfl)
              try simp only [Act.put, List.setIfInBounds_toArray, List.set_cons_zero, List.set_cons_succ]
              refine stake_an 18 142 (v := ?vc17) rfl rfl (by kernel_rfl) (by kernel_rfl) (by kernel_rfl) (fun _ _ _ h => h) (by rfl) ?yc17 hcgk ?rc17
              case yc17 => (intro w _; go_simp; try with_reducible rfl)
              try simp only [Act.put, List.setIfInBounds_toArray, List.set_cons_zero, List.set_cons_succ]
              refine stake_an 19 143 (v := ?vc18) rfl rfl (by kernel_rfl) (by kernel_rfl) (by kernel_rfl) (fun _ _ _ h => h) (by rfl) ?yc18 hcgk ?rc18
              case yc18 => (intro w _; go_simp; try with_reducible rfl)
              try simp only [Act.put, List.setIfInBounds_toArray, List.set_cons_zero, List.set_cons_succ]
              refine stake_an 20 144 (v := ?vc19) rfl rfl (by kernel_rfl) (by kernel_rfl) (by kernel_rfl) (fun _ _ _ h => h) (by rfl) ?yc19 hcgk ?rc19
              case yc19 => (intro w _; go_simp; try with_reducible rfl)
              try simp only [Act.put, List.setIfInBounds_toArray, List.set_cons_zero, List.set_cons_succ]
              refine stake_an 21 145 (v := ?vc20) rfl rfl (by kernel_rfl) (by kernel_rfl) (by kernel_rfl) (fun _ _ _ h => h) (by rfl) ?yc20 hcgk ?rc20
              case yc20 => (intro w _; go_simp; try with_reducible rfl)
              try simp only [Act.put, List.setIfInBounds_toArray, List.set_cons_zero, List.set_cons_succ]
              refine stake_an 22 146 (v := ?vc21) rfl rfl (by kernel_rfl) (by kernel_rfl) (by kernel_rfl) (fun _ _ _ h => h) (by rfl) ?yc21 hcgk ?rc21
              case yc21 => (intro w hg; obtain ⟨x0, x1, x2, y0, y1, y2, z0, z1, z2⟩ := KS.out w hg; go_simp; try with_reducible rfl)
              try simp only [Act.put, List.setIfInBounds_toArray, List.set_cons_zero, List.set_cons_succ]
              refine stake_an 23 147 (v := ?vc22) rfl rfl (by kernel_rfl) (by kernel_rfl) (by kernel_rfl) (fun _ _ _ h => h) (by rfl) ?yc22 hcgk ?rc22
              case yc22 => (intro w hg; obtain ⟨x0, x1, x2, y0, y1, y2, z0, z1, z2⟩ := KS.out w hg; go_simp; try with_reducible rfl)
              try simp only [Act.put, List.setIfInBounds_toArray, List.set_cons_zero, List.set_cons_succ]
              refine wpAnyH_ready (rs := [24]) (by kernel_rfl) (by simp) ?_
              refine AllReadyH.cons rfl (fun K hK => ?_) AllReadyH.nil
              go_simp
              refine (cS _ hcgk).mono ?_
              rintro e wcgs ⟨rfl, gs⟩
              go_wp2_with fail
              refine hK.out _ _ (grownBy_trans (show WE.grownBy _ none from hcgk) gs) (fun hcgs => ?_)
              clear hK K
              try simp only [Act.put, List.setIfInBounds_toArray, List.set_cons_zero, List.set_cons_succ]
              refine stake_an 25 149 (v := ?vc23) rfl rfl (by kernel_rfl) (by kernel_rfl) (by kernel_rfl) (fun _ _ _ h => h) (by rfl) ?yc23 hcgs ?rc23
              case yc23 => (intro w _; go_simp; try with_reducible rfl)
              try simp only [Act.put, List.setIfInBounds_toArray, List.set_cons_zero, List.set_cons_succ]
              refine stake_an 26 150 (v := ?vc24) rfl rfl (by kernel_rfl) (by kernel_rfl) (by kernel_rfl) (fun _ _ _ h => h) (by rfl) ?yc24 hcgs ?rc24
              case yc24 => (intro w _; go_simp; try with_reducible rfl)
              try simp only [Act.put, List.setIfInBounds_toArray, List.set_cons_zero, List.set_cons_succ]
              refine stake_an 27 151 (v := ?vc25) rfl rfl (by kernel_rfl) (by kernel_rfl) (by kernel_rfl) (fun _ _ _ h => h) (by rfl) ?yc25 hcgs ?rc25
              case yc25 => (intro w _; go_simp; try with_reducible rfl)
              try simp only [Act.put, List.setIfInBounds_toArray, List.set_cons_zero, List.set_cons_succ]
              refine wpAnyH_ready (rs := [28]) (by kernel_rfl) (by simp) ?_
              refine AllReadyH.cons rfl (fun K hK => ?_) AllReadyH.nil
              go_simp
              refine (alive_any _).mono ?_
              rintro e w' ⟨rfl, rfl⟩
              go_wp2_with fail
              refine hK.out _ _ hcgs (fun hZ => ?_)
              clear hK K
              try simp only [Act.put, List.setIfInBounds_toArray, List.set_cons_zero, List.set_cons_succ]
              refine stake_an 29 153 (v := ?vc26) rfl rfl (by kernel_rfl) (by kernel_rfl) (by kernel_rfl) (fun _ _ _ h => h) (by rfl) ?yc26 hZ ?rc26
              case yc26 => (intro w _; go_simp; try with_reducible rfl)
              try simp only [Act.put, List.setIfInBounds_toArray, List.set_cons_zero, List.set_cons_succ]
              refine stake_an 30 4 (v := ?vc27) rfl rfl (by kernel_rfl) (by kernel_rfl) (by kernel_rfl) (fun _ _ _ h => h) (by rfl) ?yc27 hZ ?rc27
              case yc27 => (intro w _; go_simp; try with_reducible rfl)
              try simp only [Act.put, List.setIfInBounds_toArray, List.set_cons_zero, List.set_cons_succ]
              refine wpAnyH_done (by kernel_rfl) ?_ _
              refine NoPanic.normal ?_
              go_wp2_with fail
              go_ret
              exact ⟨rfl, below_of (grownBy_trans GA.out (grownBy_trans G5b.out hZ))⟩
            · have h40' : decide ((40 : Int) < (m.length : Int)) = true := decide_eq_true (by omega)
              have KS : Hid (∀ w', WE.grownBy w' none → w'.cell? ⟨b1, 0, none⟩ = some (.int .i64 p) ∧ w'.cell? ⟨b1, 1, none⟩ = some (.string (bs s)) ∧ w'.cell? ⟨b1, 2, none⟩ = some (.slice a xs.length c) ∧ w'.cell? ⟨b2, 0, none⟩ = some (.int .i64 p1) ∧ w'.cell? ⟨b2, 1, none⟩ = some (.string (bs s1)) ∧ w'.cell? ⟨b2, 2, none⟩ = some (.slice ae ys.length ce) ∧ w'.cell? ⟨b5, 0, none⟩ = some (.int .i64 pe) ∧ w'.cell? ⟨b5, 1, none⟩ = some (.string (bs se)) ∧ w'.cell? ⟨b5, 2, none⟩ = some (.slice a5 ye.length c5)) := Lib.hid fun w' g => ⟨(HA.out.grown (grownBy_trans G5b.out g)).three.1, (HA.out.grown (grownBy_trans G5b.out g)).three.2.1, (HA.out.grown (grownBy_trans G5b.out g)).three.2.2, (HB5.out.grown g).three.1, (HB5.out.grown g).three.2.1, (HB5.out.grown g).three.2.2, (HE5.out.grown g).three.1, (HE5.out.grown g).three.2.1, (HE5.out.grown g).three.2.2⟩
              refine wp_region_noPanic ?_
              refine wp_region_held_drew (S := fun w' => WE.grownBy w' none) (by kernel_rfl) (grownBy_drew (grownBy_refl _ none)) (fun hH => ?_)
              refine stake_an 0 124 (v := ?vb1) rfl rfl (by kernel_rfl) (by kernel_rfl) (by kernel_rfl) (fun _ _ _ h => h) (by rfl) ?yb1 hH ?rb1
              case yb1 => (intro w _; go_simp; try with_reducible rfl)
              try simp only [Act.put, List.setIfInBounds_toArray, List.set_cons_zero, List.set_cons_succ]
              refine stake_an 1 125 (v := ?vb2) rfl rfl (by kernel_rfl) (by kernel_rfl) (by kernel_rfl) (fun _ _ _ h => h) (by rfl) ?yb2 hH ?rb2
              case yb2 => (intro w _; go_simp; try with_reducible rfl)
              try simp only [Act.put, List.setIfInBounds_toArray, List.set_cons_zero, List.set_cons_succ]
              refine stake_an 2 126 (v := ?vb3) rfl rfl (by kernel_rfl) (by kernel_rfl) (by kernel_rfl) (fun _ _ _ h => h) (by rfl) ?yb3 hH ?rb3
              case yb3 => (intro w _; go_simp; try with_reducible rfl)
              try simp only [Act.put, List.setIfInBounds_toArray, List.set_cons_zero, List.set_cons_succ]
              refine stake_an 3 127 (v := ?vb4) rfl rfl (by kernel_rfl) (by kernel_rfl) (by kernel_rfl) (fun _ _ _ h => h) (by rfl) ?yb4 hH ?rb4
              case yb4 => (intro w _; go_simp; try with_reducible rfl)
              try simp only [Act.put, List.setIfInBounds_toArray, List.set_cons_zero, List.set_cons_succ]
              refine stake_an 4 128 (v := ?vb5) rfl rfl (by kernel_rfl) (by kernel_rfl) (by kernel_rfl) (fun _ _ _ h => h) (by rfl) ?yb5 hH ?rb5
              case yb5 => (intro w _; go_simp; try with_reducible rfl)
              try simp only [Act.put, List.setIfInBounds_toArray, List.set_cons_zero, List.set_cons_succ]
              refine stake_an 5 129 (v := ?vb6) rfl rfl (by kernel_rfl) (by kernel_rfl) (by kernel_rfl) (fun _ _ _ h => h) (by rfl) ?yb6 hH ?rb6
              case yb6 => (intro w _; go_simp; try with_reducible rfl)
              try simp only [Act.put, List.setIfInBounds_toArray, List.set_cons_zero, List.set_cons_succ]
              refine stake_an 7 131 (v := ?vb7) rfl rfl (by kernel_rfl) (by kernel_rfl) (by kernel_rfl) (fun _ _ _ h => h) (by rfl) ?yb7 hH ?rb7
              case yb7 => (intro w _; go_simp; try with_reducible rfl)
              try simp only [Act.put, List.setIfInBounds_toArray, List.set_cons_zero, List.set_cons_succ]
              refine stake_an 8 132 (v := ?vb8) rfl rfl (by kernel_rfl) (by kernel_rfl) (by kernel_rfl) (fun _ _ _ h => h) (by rfl) ?yb8 hH ?rb8
              case yb8 => (intro w _; go_simp; try with_reducible rfl)
              try simp only [Act.put, List.setIfInBounds_toArray, List.set_cons_zero, List.set_cons_succ]
              refine stake_an 9 133 (v := ?vb9) rfl rfl (by kernel_rfl) (by kernel_rfl) (by kernel_rfl) (fun _ _ _ h => h) (by rfl) ?yb9 hH ?rb9
              case yb9 => (intro w _; go_simp; try with_reducible rfl)
              try simp only [Act.put, List.setIfInBounds_toArray, List.set_cons_zero, List.set_cons_succ]
              refine wpAnyH_ready (rs := [6]) (by kernel_rfl) (by simp) ?_
              refine AllReadyH.cons rfl (fun K hK => ?_) AllReadyH.nil
              go_simp
              refine (cJ _ (grownBy_trans G5b.out hH)).mono ?_
              rintro e wbgj ⟨rfl, gj⟩
              go_wp2_with fail
              refine hK.out _ _ (grownBy_trans (show WE.grownBy _ none from hH) gj) (fun hbgj => ?_)
              clear hK K
              try simp only [Act.put, List.setIfInBounds_toArray, List.set_cons_zero, List.set_cons_succ]
              refine stake_an 10 134 (v := ?vb10) rfl rfl (by kernel_rfl) (by kernel_rfl) (by kernel_rfl) (fun _ _ _ h => h) (by rfl) ?yb10 hbgj ?rb10
              case yb10 => (intro w _; go_simp; try with_reducible rfl)
              try simp only [Act.put, List.setIfInBounds_toArray, List.set_cons_zero, List.set_cons_succ]
              refine stake_an 11 135 (v := ?vb11) rfl rfl (by kernel_rfl) (by kernel_rfl) (by kernel_rfl) (fun _ _ _ h => h) (by rfl) ?yb11 hbgj ?rb11
              case yb11 => (intro w _; go_simp; try with_reducible rfl)
              try simp only [Act.put, List.setIfInBounds_toArray, List.set_cons_zero, List.set_cons_succ]
              refine stake_an 12 136 (v := ?vb12) rfl rfl (by kernel_rfl) (by kernel_rfl) (by kernel_rfl) (fun _ _ _ h => h) (by rfl) ?yb12 hbgj ?rb12
              case yb12 => (intro w _; go_simp; try with_reducible rfl)
              try simp only [Act.put, List.setIfInBounds_toArray, List.set_cons_zero, List.set_cons_succ]
              refine stake_an 13 137 (v := ?vb13) rfl rfl (by kernel_rfl) (by kernel_rfl) (by kernel_rfl) (fun _ _ _ h => h) (by rfl) ?yb13 hbgj ?rb13
              case yb13 => (intro w hg; obtain ⟨x0, x1, x2, y0, y1, y2, z0, z1, z2⟩ := KS.out w hg; go_simp; try with_reducible rfl)
              try simp only [Act.put, List.setIfInBounds_toArray, List.set_cons_zero, List.set_cons_succ]
              refine wpAnyH_ready (rs := [14]) (by kernel_rfl) (by simp) ?_
              refine AllReadyH.cons rfl (fun K hK => ?_) AllReadyH.nil
              go_simp
              refine (cO _ (grownBy_trans G5b.out hbgj)).mono ?_
              rintro e wbgk ⟨rfl, gk⟩
              go_wp2_with fail
              refine hK.out _ _ (grownBy_trans (show WE.grownBy _ none from hbgj) gk) (fun hbgk => ?_)
              clear hK K
              try simp only [Act.put, List.setIfInBounds_toArray, List.set_cons_zero, List.set_cons_succ]
              refine stake_an 15 139 (v := ?vb14) rfl rfl (by kernel_rfl) (by kernel_rfl) (by kernel_rfl) (fun _ _ _ h => h) (by rfl) ?yb14 hbgk ?rb14
              case yb14 => (intro w _; go_simp; try with_reducible rfl)
              try simp only [Act.put, List.setIfInBounds_toArray, List.set_cons_zero, List.set_cons_succ]
              refine stake_an 16 140 (v := ?vb15) rfl rfl (by kernel_rfl) (by kernel_rfl) (by kernel_rfl) (fun _ _ _ h => h) (by rfl) ?yb15 hbgk ?rb15
              case yb15 => (intro w _; go_simp; try with_reducible rfl)
              try simp only [Act.put, List.setIfInBounds_toArray, List.set_cons_zero, List.set_cons_succ]
              refine stake_an 17 141 (v := ?vb16) rfl rfl (by kernel_rfl) (by kernel_rfl) (by kernel_rfl) (fun _ _ _ h => h) (by rfl) ?yb16 hbgk ?rb16
              case yb16 => (intro w _; go_simp; try with_reducible rfl)
              try simp only [Act.put, List.setIfInBounds_toArray, List.set_cons_zero, List.set_cons_succ]
              refine stake_an 18 142 (v := ?vb17) rfl rfl (by kernel_rfl) (by kernel_rfl) (by kernel_rfl) (fun _ _ _ h => h) (by rfl) ?yb17 hbgk ?rb17
              case yb17 => (intro w _; go_simp; try with_reducible rfl)
              try simp only [Act.put, List.setIfInBounds_toArray, List.set_cons_zero, List.set_cons_succ]
              refine stake_an 19 143 (v := ?vb18) rfl rfl (by kernel_rfl) (by kernel_rfl) (by kernel_rfl) (fun _ _ _ h => h) (by rfl) ?yb18 hbgk ?rb18
              case yb18 => (intro w _; go_simp; try with_reducible rfl)
              try simp only [Act.put, List.setIfInBounds_toArray, List.set_cons_zero, List.set_cons_succ]
              refine stake_an 20 144 (v := ?vb19) rfl rfl (by kernel_rfl) (by kernel_rfl) (by kernel_rfl) (fun _ _ _ h => h) (by rfl) ?yb19 hbgk ?rb19
              case yb19 => (intro w _; go_simp; try with_reducible rfl)
              try simp only [Act.put, List.setIfInBounds_toArray, List.set_cons_zero, List.set_cons_succ]
              refine stake_an 21 145 (v := ?vb20) rfl rfl (by kernel_rfl) (by kernel_rfl) (by kernel_rfl) (fun _ _ _ h => h) (by rfl) ?yb20 hbgk ?rb20
              case yb20 => (intro w _; go_simp; try with_reducible rfl)
              try simp only [Act.put, List.setIfInBounds_toArray, List.set_cons_zero, List.set_cons_succ]
              refine sdrop_an 22 146 rfl rfl (by kernel_rfl) (by kernel_rfl) (by kernel_rfl) (fun _ _ _ h => h) (by rfl) hbgk ?_
              try simp only [Act.put, List.setIfInBounds_toArray, List.set_cons_zero, List.set_cons_succ]
              refine sdrop_an 23 147 rfl rfl (by kernel_rfl) (by kernel_rfl) (by kernel_rfl) (fun _ _ _ h => h) (by rfl) hbgk ?_
              try simp only [Act.put, List.setIfInBounds_toArray, List.set_cons_zero, List.set_cons_succ]
              refine sdrop_an 24 148 rfl rfl (by kernel_rfl) (by kernel_rfl) (by kernel_rfl) (fun _ _ _ h => h) (by rfl) hbgk ?_
              try simp only [Act.put, List.setIfInBounds_toArray, List.set_cons_zero, List.set_cons_succ]
              refine stake_an 25 149 (v := ?vb21) rfl rfl (by kernel_rfl) (by kernel_rfl) (by kernel_rfl) (fun _ _ _ h => h) (by rfl) ?yb21 hbgk ?rb21
              case yb21 => (intro w _; go_simp; try with_reducible rfl)
              try simp only [Act.put, List.setIfInBounds_toArray, List.set_cons_zero, List.set_cons_succ]
              refine stake_an 26 150 (v := ?vb22) rfl rfl (by kernel_rfl) (by kernel_rfl) (by kernel_rfl) (fun _ _ _ h => h) (by rfl) ?yb22 hbgk ?rb22
              case yb22 => (intro w _; go_simp; try with_reducible rfl)
              try simp only [Act.put, List.setIfInBounds_toArray, List.set_cons_zero, List.set_cons_succ]
              refine stake_an 27 151 (v := ?vb23) rfl rfl (by kernel_rfl) (by kernel_rfl) (by kernel_rfl) (fun _ _ _ h => h) (by rfl) ?yb23 hbgk ?rb23
              case yb23 => (intro w _; go_simp; try with_reducible rfl)
              try simp only [Act.put, List.setIfInBounds_toArray, List.set_cons_zero, List.set_cons_succ]
              refine wpAnyH_ready (rs := [28]) (by kernel_rfl) (by simp) ?_
              refine AllReadyH.cons rfl (fun K hK => ?_) AllReadyH.nil
              go_simp
              refine (alive_any _).mono ?_
              rintro e w' ⟨rfl, rfl⟩
              go_wp2_with fail
              refine hK.out _ _ hbgk (fun hZ => ?_)
              clear hK K
              try simp only [Act.put, List.setIfInBounds_toArray, List.set_cons_zero, List.set_cons_succ]
              refine stake_an 29 153 (v := ?vb24) rfl rfl (by kernel_rfl) (by kernel_rfl) (by kernel_rfl) (fun _ _ _ h => h) (by rfl) ?yb24 hZ ?rb24
              case yb24 => (intro w _; go_simp; try with_reducible rfl)
              try simp only [Act.put, List.setIfInBounds_toArray, List.set_cons_zero, List.set_cons_succ]
              refine stake_an 30 4 (v := ?vb25) rfl rfl (by kernel_rfl) (by kernel_rfl) (by kernel_rfl) (fun _ _ _ h => h) (by rfl) ?yb25 hZ ?rb25
              case yb25 => (intro w _; go_simp; try with_reducible rfl)
              try simp only [Act.put, List.setIfInBounds_toArray, List.set_cons_zero, List.set_cons_succ]
              refine wpAnyH_done (by kernel_rfl) ?_ _
              refine NoPanic.normal ?_
              go_wp2_with fail
              go_ret
              exact ⟨rfl, below_of (grownBy_trans GA.out (grownBy_trans G5b.out hZ))⟩

end Go.Proofs.YtlnffpofbfigaaaGreatDoor

/-
  From the premise that the listed variables lie as the program's text lays them: the words of deeds, and the library's two errors.
-/
namespace Go.Proofs.YtlnffpofbfigaaaGreatDoor
open Go.ChangeShapes Go.WideShapes Go.ChangeAt Go.RowKit Go.Stop

theorem dword_list : (Rows.laid_loop_example_manyvalues_impl_deedWords : DataW Unit) = .agg (wordsL.map fun l => (DataW.lit (.string l) : DataW Unit)) := by kernel_rfl

theorem dword_cells {W : World} {g t f : Nat} {cs : Array Value} {p : List MemPlace} (hg : Tryz.prog.globalNamed "loop.example/manyvalues/impl.deedWords" = some g) (ht : (Tryz.prog.globals[g]?).map (·.type) = some t) (hv : W.var? Tryz.prog "loop.example/manyvalues/impl.deedWords" = some cs)
    (hd : DataW.trod (fun _ => ()) Tryz.prog W 0 (fun _ => true) false f t cs.toList = some (Rows.laid_loop_example_manyvalues_impl_deedWords, p)) : WdAt W := by
  rw [dword_list] at hd
  obtain rfl := Option.some.inj ((show Tryz.prog.globalNamed "loop.example/manyvalues/impl.deedWords" = some 0 by kernel_rfl).symm.trans hg)
  obtain rfl := Option.some.inj ((show (Tryz.prog.globals[0]?).map (·.type) = some 81 by kernel_rfl).symm.trans ht)
  obtain ⟨xs, m, _, ex, _, hl, hel⟩ := DataW.trod_array Tryz.underlying81 hd
  have hc1 : Tryz.prog.cellsOf 9 = 1 := by kernel_rfl
  have hlen : wordsL.length = 7 := rfl
  have e3 : (xs.map (·.1)) = wordsL.map fun l => (DataW.lit (.string l) : DataW Unit) := (DataW.agg.inj (Prod.mk.inj ex).1).symm
  have hxl : xs.length = 7 := by
    have := congrArg List.length e3
    simpa [hlen] using this
  have hc : ∀ r, r < 7 → W.cell? ⟨0, r, none⟩ = some (.string (bs (wordsL.getD r []))) := by
    intro r hr
    have hE := hel r (by omega)
    rw [hc1, Nat.mul_one, List.getElem?_eq_getElem (by omega)] at hE
    obtain ⟨z, e1, e2, _⟩ := DataW.trod_string Tryz.underlying9 hE
    have e4 : (xs.map (·.1))[r]? = (wordsL.map fun l => (DataW.lit (.string l) : DataW Unit))[r]? := by rw [e3]
    rw [List.getElem?_map, List.getElem?_map, List.getElem?_eq_getElem (by omega : r < xs.length), List.getElem?_eq_getElem (by omega : r < wordsL.length), e2] at e4
    have hz : z = bs (wordsL.getD r []) := by
      simp only [Option.map_some, Option.some.injEq, DataW.lit.injEq, Lit.string.injEq] at e4
      rw [List.getD_eq_getElem?_getD, List.getElem?_eq_getElem (by omega : r < wordsL.length), Option.getD_some, ← e4]
      exact (bs_bl z).symm
    rw [World.var?_cell hg hv r, ← hz]
    have : cs.toList[r]? = some (.string z) := by
      have h0 : ((cs.toList.drop r).take 1)[0]? = some (.string z) := by rw [e1]; rfl
      simpa using h0
    simpa using this
  exact ⟨World.block_lt_of_cell? W _ (hc 0 (by decide)), hc⟩

theorem wd_of_met {r : List (String × DataW Unit)} {W : World} (h : laidMet Tryz.prog (("loop.example/manyvalues/impl.deedWords", Rows.laid_loop_example_manyvalues_impl_deedWords) :: r) W) : WdAt W := by
  obtain ⟨ps, ⟨g0, t0, cs0, f0, p0, q0, hg0, ht0, hv0, hd0, _⟩, _⟩ := h
  exact dword_cells hg0 ht0 hv0 hd0

theorem er_star : "*" ++ "errors.errorString" = "*errors.errorString" := by decide
theorem er_type (u : TypeId) (h : Tryz.prog.typeName? 3 u = some "*errors.errorString") : u = 227 :=
  typeName_ptr_named (nm := "errors.errorString") (by rw [er_star]; kernel_rfl) (by kernel_rfl) (by decide) u (by rw [er_star]; exact h)
theorem er_cells : Tryz.prog.cellsOf 229 = 1 := by kernel_rfl
theorem er_cells9 : Tryz.prog.cellsOf 9 = 1 := by kernel_rfl
theorem er_iface {n : String} {g : Nat} {l : List UInt8} {r : List (String × DataW Unit)} {W : World} (h : laidMet Tryz.prog ((n, .iface "*errors.errorString" (.ptr (.agg [.lit (.string l)]))) :: r) W) (hg : Tryz.prog.globalNamed n = some g) (ht : (Tryz.prog.globals[g]?).map (·.type) = some 88) : ∃ tp p, W.cell? ⟨g, 0, none⟩ = some (.iface tp p) := by
  obtain ⟨a, s, hv, _, _, _⟩ := laid_sentinel h hg ht Tryz.underlying88 er_type Tryz.underlying227 Tryz.underlying229 rfl rfl Tryz.underlying9 er_cells er_cells9
  exact ⟨_, _, by simpa using World.var?_cell hg hv 0⟩

def laid6 : List (String × DataW Unit) := [("math/bits.deBruijn32tab", Rows.laid_math_bits_deBruijn32tab), ("math/bits.deBruijn64tab", Rows.laid_math_bits_deBruijn64tab), ("internal/strconv.uint64pow10", Rows.laid_internal_strconv_uint64pow10), ("strconv.ErrRange", Rows.laid_strconv_ErrRange), ("strconv.ErrSyntax", Rows.laid_strconv_ErrSyntax), ("loop.example/manyvalues/impl.deedWords", Rows.laid_loop_example_manyvalues_impl_deedWords)]
def laid4 : List (String × DataW Unit) := [("math/bits.deBruijn32tab", Rows.laid_math_bits_deBruijn32tab), ("math/bits.deBruijn64tab", Rows.laid_math_bits_deBruijn64tab), ("internal/strconv.uint64pow10", Rows.laid_internal_strconv_uint64pow10), ("loop.example/manyvalues/impl.deedWords", Rows.laid_loop_example_manyvalues_impl_deedWords)]
theorem wd_of_laid6 {W : World} (h : laidMetH Tryz.prog laid6 W) : WdAt W ∧ ErAt W := by
  rw [MakeChecks.laidMetH_plain _ _ _ (by kernel_rfl)] at h
  have h3 : laidMet Tryz.prog _ W := h.tail.tail.tail
  exact ⟨wd_of_met h3.tail.tail, er_iface h3.tail (by kernel_rfl) (by kernel_rfl), er_iface h3 (by kernel_rfl) (by kernel_rfl)⟩
theorem wd_of_laid4 {W : World} (h : laidMetH Tryz.prog laid4 W) : WdAt W := by
  rw [MakeChecks.laidMetH_plain _ _ _ (by kernel_rfl)] at h
  have h3 : laidMet Tryz.prog _ W := h.tail.tail.tail
  exact wd_of_met h3

end Go.Proofs.YtlnffpofbfigaaaGreatDoor

/-
  From the premise that the listed variables lie as the program's text lays them (eight of them, one a table of the library held against a constant): the words of deeds, and the library's two errors.
-/
namespace Go.Proofs.YtlnffpofbfigaaaGreatDoor
open Go.ChangeShapes Go.WideShapes Go.ChangeAt Go.RowKit Go.Stop

def laid8 : List (String × DataW Unit) := [("math/bits.deBruijn32tab", Rows.laid_math_bits_deBruijn32tab), ("math/bits.deBruijn64tab", Rows.laid_math_bits_deBruijn64tab), ("internal/strconv.uint64pow10", Rows.laid_internal_strconv_uint64pow10), ("unicode/utf8.acceptRanges", Rows.laid_unicode_utf8_acceptRanges), ("strconv.ErrRange", Rows.laid_strconv_ErrRange), ("strconv.ErrSyntax", Rows.laid_strconv_ErrSyntax), ("loop.example/manyvalues/impl.deedWords", Rows.laid_loop_example_manyvalues_impl_deedWords), ("unicode/utf8.first", Rows.laid_unicode_utf8_first)]
theorem wd_of_laid8 {W : World} (h : laidMetH Tryz.prog laid8 W) : WdAt W ∧ ErAt W := by
  rw [MakeChecks.laidMetH_plain _ _ _ (by kernel_rfl)] at h
  have h3 : laidMet Tryz.prog _ W := h.tail.tail.tail.tail
  exact ⟨wd_of_met h3.tail.tail, er_iface h3.tail (by kernel_rfl) (by kernel_rfl), er_iface h3 (by kernel_rfl) (by kernel_rfl)⟩

end Go.Proofs.YtlnffpofbfigaaaGreatDoor
