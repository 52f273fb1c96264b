/-
  The walk of FnAnswerTo.
-/
import Derived.Test.YthfikgaghinfbaaLV1
import Derived.Test.YthfikgaghinfbaaLDr3
import Derived.Test.YthfikgaghinfbaaSignI
namespace Go.Proofs.Ythfikgaghinfbaa
open Go.RowKit

theorem ansW_case (n : Int) (xs : List Int) (s : Int) (y : Bool) : ansW n xs s y = [] ∨ (gameB n xs = true ∧ ∃ S : Nat, s = (S : Int) ∧ S < 2 ^ xs.length ∧ ansW n xs s y = ansL xs S y) := by
  unfold ansW
  by_cases h : gameB n xs = true ∧ inB s 0 (2 ^ xs.length - 1) = true
  · right
    obtain ⟨hg, hs⟩ := h
    have hb := inB_of hs
    obtain ⟨S, rfl⟩ := Int.eq_ofNat_of_zero_le hb.1
    have e : ((2 ^ xs.length : Nat) : Int) = 2 ^ xs.length := by push_cast; rfl
    refine ⟨hg, S, rfl, by rw [← e] at hb; omega, ?_⟩
    rw [if_pos ⟨hg, hs⟩]
    rfl
  · left
    rw [if_neg h]
theorem times_dn {n : Int} {xs : List Int} (hg : gameB n xs = true) {k : Nat} (hk : k < xs.length) : timesW n (xs.getD k 0) (n - 1) = dn (xs.getD k 0) := by
  obtain ⟨hn, _, hx⟩ := gameB_of hg
  have h := hx k hk
  have ht : twoB n (xs.getD k 0) (n - 1) = true := twoB_mk (vokB_t (by omega)) (vokB_t (by omega))
  by_cases hc : 0 ≤ xs.getD k 0 + (n - 1) - n
  · rw [timesW_t ht hc]
    unfold dn
    split <;> omega
  · rw [timesW_e ht hc]
    unfold dn
    rw [if_neg (by omega)]
theorem same_v (a b : Option Addr) (ca cb : Nat) (x : List Int) (w : World) (hx : IntsAt w a x) (hy : IntsAt w b x) :
    Calls Try.prog 23 #[.slice a x.length ca, .slice b x.length cb] w fun e w' => e = .returned (.bool true) ∧ w.grownBy w' none := by
  have := sameInts_any a b ca cb x x w hx hy
  rwa [sameL_self] at this
theorem same_l (a b : Option Addr) (ca cb L : Nat) (x : List Int) (hl : x.length = L) (w : World) (hx : IntsAt w a x) (hy : IntsAt w b x) :
    Calls Try.prog 23 #[.slice a L ca, .slice b L cb] w fun e w' => e = .returned (.bool true) ∧ w.grownBy w' none := by
  subst hl
  exact same_v a b ca cb x w hx hy
/-- An answer of a game, by the set's number. -/
theorem ians_l {n : Int} {xs : List Int} (hg : gameB n xs = true) (a : Option Addr) (cap L : Nat) (hl : xs.length = L) {O : Nat} (hO : O < 2 ^ L) (y : Bool) {o : Int} (ho : o = (O : Int)) {zs : List Int} (hz : ansL xs O y = zs) (w : World) (h : IntsAt w a xs) :
    Calls Try.prog 22 #[.int .i64 n, .slice a L cap, .int .i64 o, .bool y] w fun e w' => ∃ d c, e = .returned (.slice d L c) ∧ IntsAt w' d zs ∧ w.grownBy w' none := by
  subst hl
  subst ho
  have c := iansw_any n a cap xs (O : Int) y w h
  rw [ansW_in hg hO] at c
  refine c.mono ?_
  rintro e w' ⟨d, c, rfl, hO2, g⟩
  rw [ans_len]
  refine ⟨d, c, rfl, ?_, g⟩
  rw [← hz]
  exact hO2.at (by rw [ans_len]; have := (gameB_of hg).2.1.2; unfold maxLen; omega)
theorem ans_pow {L P S : Nat} (hL : 1 ≤ L ∧ L ≤ 3) (hS : S < 2 ^ L) (hP : 2 ^ L = P) : wrap64 (2 ^ L) = (P : Int) ∧ IntKind.i64.wrap (2 ^ L) = (P : Int) ∧ (S : Int) < (P : Int) ∧ 2 ≤ P ∧ P ≤ 8 ∧ 2 ^ L - 1 - S < 2 ^ L ∧ (P : Int) - 1 - (S : Int) = ((2 ^ L - 1 - S : Nat) : Int) := by
  have e2 : (2 : Int) ^ L = (P : Int) := by rw [← hP]; push_cast; rfl
  obtain ⟨p1, p2⟩ := pow_wrap hL
  have tp := two_pow hL
  rw [e2] at p1 p2 tp
  rw [e2, hP]
  rw [hP] at hS
  exact ⟨p1, p2, by omega, by omega, by omega, by omega, by omega⟩
theorem wrap_byte {u : Nat} (h : u ≤ 255) : IntKind.i64.wrap (u : Int) = (u : Int) := IntWalk.i64_in _ (by omega)
def LanRel (L : Nat) (w : World) (i : Value) (wr : World) : Prop := ∃ k : Nat, k ≤ L ∧ i = .int .i64 k ∧ w.grownBy wr none

set_option maxRecDepth 100000 in
set_option maxHeartbeats 8000000 in
theorem FnAnswerTo_walk (a0 : Option Addr) (len0 cap0 : Nat) (z0 : List Int) (a1 : Option Addr) (len1 cap1 : Nat) (z1 : List Int) (w : World) (w0 : IsRow .u8 w a0 len0 cap0 z0) (w1 : IsRow .u8 w a1 len1 cap1 z1) :
    Calls Try.prog 4 #[.slice a0 len0 cap0, .slice a1 len1 cap1] w fun e w' => e = .returned (.bool true) ∧ Below w.heap.size w w' := by
  by_cases hl : (1048576 : Int) < (len0 : Int)
  · clear w0 w1
    go_enter Try.func4, Try.ntmps4
    go_wp2_with fail
    go_ret
    exact ⟨rfl, Below.refl _ _⟩
  by_cases hl1 : (1048576 : Int) < (len1 : Int)
  · clear w0 w1
    go_enter Try.func4, Try.ntmps4
    go_wp2_with fail
    go_ret
    exact ⟨rfl, Below.refl _ _⟩
  · have W1 := Lib.hid w1
    clear w1
    go_enter Try.func4, Try.ntmps4
    go_wp2_with fail
    refine (DrawAnswerTo_any _ _ _ _ _ w0).mono ?_
    rintro e w2 ⟨n, xs, a, ca, s, y, rfl, n1, n2, x3, hX, s1, s2, g1⟩
    clear w0
    have HX := Lib.hid hX
    have G1 := Lib.hid g1
    clear hX g1
    have c1 := fun w h => iansw_any n a ca xs s y w h
    have c2 := fun w h => sans_any n a ca xs s y w h
    have hlen : (ansW n xs s y).length ≤ 3 := by
      rcases ansW_case n xs s y with h | ⟨_, S, _, _, h⟩
      · rw [h]; simp
      · rw [h, ans_len]; exact x3
    rcases ansW_case n xs s y with hz | ⟨hg, S, hs, hS, hz⟩
    · rw [hz] at c1 c2
      clear hz hlen
      go_wp2_with fail
      refine (c1 _ HX.out).mono ?_
      rintro e w3 ⟨b, cb, rfl, hO, g3⟩
      clear c1
      have I3 := Lib.hid (hO.at (by simp))
      clear hO
      go_wp2_with fail
      refine (c2 _ (HX.out.grown g3)).mono ?_
      rintro e w4 ⟨d, cd, rfl, hO, g4⟩
      clear c2
      have cs := same_v b d cb cd [] w4 (I3.out.grown g4) (hO.at (by simp))
      clear hO
      go_wp2_with fail
      refine cs.mono ?_
      rintro e w5 ⟨rfl, g5⟩
      clear cs
      go_wp2_with (go_at_call 20; refine (alive_any _).mono ?_; rintro e w' ⟨rfl, rfl⟩)
      go_ret
      exact ⟨rfl, below_of (grownBy_trans G1.out (grownBy_trans g3 (grownBy_trans g4 g5)))⟩
    · rw [hz] at c1 c2
      have hL := (gameB_of hg).2.1
      have HG := Lib.hid hg
      have HS := Lib.hid hS
      have HL := Lib.hid hL
      have HZ := Lib.hid (fun S y => show (ansL xs S y).length ≤ maxLen by rw [ans_len]; unfold maxLen; omega)
      have HLN := Lib.hid (ans_len xs S y)
      have tp := two_pow hL
      have l1 : (1 : Int) ≤ (xs.length : Int) := by omega
      have l3 : (xs.length : Int) ≤ 3 := by omega
      subst hs
      clear hz hlen hg hS hL
      go_wp2_with fail
      refine (c1 _ HX.out).mono ?_
      rintro e w3 ⟨b, cb, rfl, hO, g3⟩
      clear c1
      have I3 := Lib.hid (hO.at (HZ.out S y))
      have G3 := Lib.hid g3
      clear hO g3
      go_wp2_with fail
      refine (c2 _ (HX.out.grown G3.out)).mono ?_
      rintro e w4 ⟨d, cd, rfl, hO, g4⟩
      clear c2
      have cs := same_v b d cb cd (ansL xs S y) w4 (I3.out.grown g4) (hO.at (HZ.out S y))
      have G4 := Lib.hid (grownBy_trans G3.out g4)
      have I4 := Lib.hid (I3.out.grown g4)
      clear hO g4
      go_wp2_with fail
      refine cs.mono ?_
      rintro e w5 ⟨rfl, g5⟩
      clear cs
      have G5 := Lib.hid (grownBy_trans G4.out g5)
      have I5 := Lib.hid (I4.out.grown g5)
      clear g5
      rw [HLN.out]
      have e0 : ((xs.length : Int) == 0) = false := beq_eq_false_iff_ne.2 (by omega)
      go_wp2_with fail
      go_loopw [10] (fun i wx => LanRel xs.length w5 i wx) (fun i _ => xs.length - (intOf i).toNat)
      case atStart => exact ⟨0, by omega, rfl, grownBy_refl _ _⟩
      case round =>
        obtain ⟨k, hk, rfl, hgr⟩ := hrel
        by_cases hlt : k < xs.length
        · rcases (HX.out.grown (grownBy_trans G5.out hgr)).2 with h0 | ⟨bx, ox, rfl, hbx, hcx⟩
          · rw [h0] at hlt; simp at hlt
          rcases (I5.out.grown hgr).2 with h0 | ⟨bz, oz, rfl, hbz, hcz⟩
          · have := HLN.out; rw [h0] at this; simp at this; omega
          have hc1 := hcx k hlt
          have hc2 := hcz k (by rw [HLN.out]; exact hlt)
          rw [ans_at xs S y hlt] at hc2
          have ct := fun w => times_any n (xs.getD k 0) (n - 1) w
          rw [times_dn HG.out hlt] at ct
          have hq := (gameB_of HG.out).2.2 k hlt
          have hb := bit_int S k
          have hak : ansK xs S y k = if (bitB S k != y) = true then dn (xs.getD k 0) else xs.getD k 0 := rfl
          rw [hak] at hc2
          have i0 : (0 : Int) ≤ (k : Int) := by omega
          have i1 : (k : Int) < (xs.length : Int) := by omega
          have HGR := Lib.hid hgr
          have HLT := Lib.hid hlt
          have HC2 := Lib.hid hc2
          have hn3 := (gameB_of HG.out).1
          clear hcx hcz hbx hbz hak hgr hlt hk hc2
          generalize dn (xs.getD k 0) = v at *
          generalize xs.getD k 0 = q at *
          have hvv : (v != v) = false := by simp
          have hqq : (q != q) = false := by simp
          cases hbit : bitB S k
          · rw [hbit] at hb HC2
            clear hbit
            cases y
            · have hc2 : _ = some (Value.int .i64 q) := HC2.out
              go_wp2_with fail
              go_roundw
              case rel => exact ⟨k + 1, HLT.out, by go_num, HGR.out⟩
              case measure => have := HLT.out; simp [intOf]; omega
            · have hc2 : _ = some (Value.int .i64 v) := HC2.out
              have hcg := fun w6 (g : wr.grownBy w6 none) => g.cell hc2 (by simp)
              go_wp2_with fail
              refine (ct _).mono ?_
              rintro e w6 ⟨rfl, g6⟩
              have n6 := hcg w6 g6
              clear ct hcg
              go_wp2_with fail
              go_roundw
              case rel => exact ⟨k + 1, HLT.out, by go_num, grownBy_trans HGR.out g6⟩
              case measure => have := HLT.out; simp [intOf]; omega
          · rw [hbit] at hb HC2
            clear hbit
            cases y
            · have hc2 : _ = some (Value.int .i64 v) := HC2.out
              have hcg := fun w6 (g : wr.grownBy w6 none) => g.cell hc2 (by simp)
              go_wp2_with fail
              refine (ct _).mono ?_
              rintro e w6 ⟨rfl, g6⟩
              have n6 := hcg w6 g6
              clear ct hcg
              go_wp2_with fail
              go_roundw
              case rel => exact ⟨k + 1, HLT.out, by go_num, grownBy_trans HGR.out g6⟩
              case measure => have := HLT.out; simp [intOf]; omega
            · have hc2 : _ = some (Value.int .i64 q) := HC2.out
              go_wp2_with fail
              go_roundw
              case rel => exact ⟨k + 1, HLT.out, by go_num, HGR.out⟩
              case measure => have := HLT.out; simp [intOf]; omega
        · obtain rfl : k = xs.length := by omega
          have HGR := Lib.hid hgr
          obtain ⟨P, hPP⟩ : ∃ P : Nat, 2 ^ xs.length = P := ⟨_, rfl⟩
          have HPP := Lib.hid hPP
          obtain ⟨p1', p2', hSP, P2, P8, q1, q2⟩ := ans_pow HL.out HS.out hPP
          have P1 : (1 : Int) ≤ (P : Int) := Int.ofNat_le.2 (Nat.le_of_lt P2)
          have P8' : (P : Int) ≤ 8 := Int.ofNat_le.2 P8
          have Q1 := Lib.hid q1
          have Q2 := Lib.hid q2
          have PP := Lib.hid P2
          clear tp q1 q2 P2
          have c5 := fun (O : Nat) (hO : O < P) (o : Int) (ho : o = (O : Int)) w h => ians_l HG.out a ca xs.length rfl (show O < 2 ^ xs.length by rw [HPP.out]; exact hO) true ho (zs := ansL xs O true) rfl w h
          have c6 := fun (O : Nat) (d : Option Addr) (c : Nat) w h => ians_l (ans_game HG.out O true) d c xs.length (ans_len xs O true) HS.out y (o := (S : Int)) rfl (zs := ansL (ansL xs O true) S y) rfl w h
          have c7 := fun (O : Nat) (hO : O < P) (o : Int) (ho : o = (O : Int)) (d : Option Addr) (c : Nat) w h => ians_l (ans_game HG.out S y) d c xs.length (ans_len xs S y) (show O < 2 ^ xs.length by rw [HPP.out]; exact hO) true ho (ans_comm xs S O y true) w h
          have c8 := fun w h => ians_l HG.out a ca xs.length rfl Q1.out (!y) (o := (P : Int) - 1 - (S : Int)) Q2.out (ans_flip HL.out.2 HS.out y) w h
          have s9 := fun (O : Nat) (d f : Option Addr) (c e : Nat) w (hx : IntsAt w d (ansL (ansL xs O true) S y)) (hy : IntsAt w f (ansL (ansL xs O true) S y)) => same_l d f c e xs.length (ansL (ansL xs O true) S y) (by rw [ans_len, ans_len]) w hx hy
          have s10 := fun (d f : Option Addr) (c e : Nat) w (hx : IntsAt w d (ansL xs S y)) (hy : IntsAt w f (ansL xs S y)) => same_l d f c e xs.length (ansL xs S y) (ans_len xs S y) w hx hy
          clear hPP hgr hlt hk
          have hcase : Hid (len1 = 0 ∨ (0 < len1 ∧ ∃ bx ox u, a1 = some ⟨bx, ox, none⟩ ∧ u ≤ 255 ∧ w.cell? ⟨bx, ox, none⟩ = some (.int .u8 (u : Nat)))) := by
            unfold Hid
            by_cases h0 : len1 = 0
            · exact .inl h0
            · right
              obtain ⟨bx, ox, ha, _, _, _, hc⟩ := W1.out.bytes (by omega)
              obtain ⟨u, hu, hcu⟩ := hc 0 (by omega)
              exact ⟨by omega, bx, ox, u, ha, hu, hcu⟩
          have HXr := Lib.hid (HX.out.grown (grownBy_trans G5.out HGR.out))
          have I5r := Lib.hid (I5.out.grown HGR.out)
          have Gw := Lib.hid (grownBy_trans G1.out (grownBy_trans G5.out HGR.out))
          have hord : ∃ (O : Nat), O < P ∧ ((len1 = 0 ∧ O = 0) ∨ (0 < len1 ∧ ∃ bx ox u, a1 = some ⟨bx, ox, none⟩ ∧ u ≤ 255 ∧ wr.cell? ⟨bx, ox, none⟩ = some (.int .u8 (u : Nat)) ∧ u % P = O)) := by
            rcases hcase.out with h | ⟨h, bx, ox, u, h1, h2, h3⟩
            · exact ⟨0, Nat.lt_of_lt_of_le (by decide) PP.out, .inl ⟨h, rfl⟩⟩
            · exact ⟨u % P, Nat.mod_lt _ (Nat.lt_of_lt_of_le (by decide) PP.out), .inr ⟨h, bx, ox, u, h1, h2, Gw.out.cell h3 (by simp), rfl⟩⟩
          obtain ⟨O, hOP, hO⟩ := hord
          have c5 := c5 O hOP (O : Int) rfl
          have c6 := c6 O
          have c7 := c7 O hOP (O : Int) rfl
          have s9 := s9 O
          have O0 : (0 : Int) ≤ (O : Int) := Int.natCast_nonneg O
          have O8 : (O : Int) < (P : Int) := Int.ofNat_lt.2 hOP
          have HO := Lib.hid hO
          clear hcase hO
          generalize ansL (ansL xs O true) S y = F at *
          generalize hA1 : ansL xs O true = A1 at *
          clear hA1
          rcases HO.out with ⟨rfl, rfl⟩ | ⟨h1, bx, ox, u, rfl, hu, hcu, hmod⟩
          · clear HO
            go_wp2_with fail
            refine (c5 _ HXr.out).mono ?_
            rintro e w6 ⟨d1, e1, rfl, hI1, g6⟩
            have cF := c6 d1 e1 w6 hI1
            have G6 := Lib.hid (g6)
            clear c5 c6 hI1
            go_wp2_with fail
            refine cF.mono ?_
            rintro e w7 ⟨f, ef, rfl, hF, g7⟩
            clear cF
            have IF := Lib.hid hF
            have G7 := Lib.hid (grownBy_trans G6.out g7)
            have cZ := c7 b cb w7 (I5r.out.grown G7.out)
            clear hF g7 c7
            go_wp2_with fail
            refine cZ.mono ?_
            rintro e w8 ⟨z, ez, rfl, hZ, g8⟩
            clear cZ
            have cq := s9 z f ez ef w8 hZ (IF.out.grown g8)
            have G8 := Lib.hid (grownBy_trans G7.out g8)
            clear hZ g8 s9
            go_wp2_with fail
            refine cq.mono ?_
            rintro e w9 ⟨rfl, g9⟩
            clear cq
            have G9 := Lib.hid (grownBy_trans G8.out g9)
            clear g9
            go_wp2_with fail
            refine (c8 _ (HXr.out.grown G9.out)).mono ?_
            rintro e w10 ⟨v, ev, rfl, hV, g10⟩
            clear c8
            have G10 := Lib.hid (grownBy_trans G9.out g10)
            have cq := s10 v b ev cb w10 hV (I5r.out.grown G10.out)
            clear hV g10 s10
            go_wp2_with fail
            refine cq.mono ?_
            rintro e w11 ⟨rfl, g11⟩
            clear cq
            go_wp2_with (go_at_call 20; refine (alive_any _).mono ?_; rintro e w' ⟨rfl, rfl⟩)
            go_ret
            exact ⟨rfl, below_of (grownBy_trans Gw.out (grownBy_trans G10.out g11))⟩
          · have m1 : (u : Int) % (P : Int) = (O : Int) := by rw [← hmod]; push_cast; rfl
            have m2 : (u : Int).tmod (P : Int) = (O : Int) := by rw [Int.tmod_eq_emod_of_nonneg (Int.natCast_nonneg u)]; exact m1
            have u0 : (u : Int) ≤ 255 := Int.ofNat_le.2 hu
            have l10 : (0 : Int) < (len1 : Int) := Int.ofNat_lt.2 h1
            have P0 : ¬ ((P : Int) = 0) := by intro e; rw [e] at P1; exact absurd P1 (by decide)
            have wu : IntKind.i64.wrap (u : Int) = (u : Int) := wrap_byte hu
            clear HO hmod
            go_wp2_with fail
            go_quiet (fail)
            go_wp2_with fail
            have gq := grownBy_drewN (grownBy_refl wr none) nq
            refine (c5 _ (HXr.out.grown gq)).mono ?_
            rintro e w6 ⟨d1, e1, rfl, hI1, g6⟩
            have cF := c6 d1 e1 w6 hI1
            have G6 := Lib.hid (grownBy_trans gq g6)
            clear c5 c6 hI1
            go_wp2_with fail
            refine cF.mono ?_
            rintro e w7 ⟨f, ef, rfl, hF, g7⟩
            clear cF
            have IF := Lib.hid hF
            have G7 := Lib.hid (grownBy_trans G6.out g7)
            have cZ := c7 b cb w7 (I5r.out.grown G7.out)
            clear hF g7 c7
            go_wp2_with fail
            refine cZ.mono ?_
            rintro e w8 ⟨z, ez, rfl, hZ, g8⟩
            clear cZ
            have cq := s9 z f ez ef w8 hZ (IF.out.grown g8)
            have G8 := Lib.hid (grownBy_trans G7.out g8)
            clear hZ g8 s9
            go_wp2_with fail
            refine cq.mono ?_
            rintro e w9 ⟨rfl, g9⟩
            clear cq
            have G9 := Lib.hid (grownBy_trans G8.out g9)
            clear g9
            go_wp2_with fail
            refine (c8 _ (HXr.out.grown G9.out)).mono ?_
            rintro e w10 ⟨v, ev, rfl, hV, g10⟩
            clear c8
            have G10 := Lib.hid (grownBy_trans G9.out g10)
            have cq := s10 v b ev cb w10 hV (I5r.out.grown G10.out)
            clear hV g10 s10
            go_wp2_with fail
            refine cq.mono ?_
            rintro e w11 ⟨rfl, g11⟩
            clear cq
            go_wp2_with (go_at_call 20; refine (alive_any _).mono ?_; rintro e w' ⟨rfl, rfl⟩)
            go_ret
            exact ⟨rfl, below_of (grownBy_trans Gw.out (grownBy_trans G10.out g11))⟩

end Go.Proofs.Ythfikgaghinfbaa
