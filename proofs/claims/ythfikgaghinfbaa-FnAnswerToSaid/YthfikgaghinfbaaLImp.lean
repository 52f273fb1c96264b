/-
  impl's answered and AnswerTo: a copy of the row by the library, in which some values are one less.
-/
import Derived.Test.YthfikgaghinfbaaLRow
import Derived.Laws.BitsLemmas
namespace Go.Proofs.Ythfikgaghinfbaa
open Go.RowKit

theorem land1 {a : Nat} (ha : a < 2 ^ 62) : bits .and .i64 (a : Int) 1 = ((a % 2 : Nat) : Int) := by
  have h := (bits_nat .i64 62 (by decide) (fun n h0 h1 => by rw [IntKind.wrap_i64]; omega) a 1 ha (by decide)).1
  rw [Nat.and_one_is_mod] at h
  exact h
theorem lint_one {xs : List Int} {j : Nat} {u : Value} (h : (xs.map (Value.int .i64))[j]? = some u) : u = .int .i64 (xs.getD j 0) ∧ j < xs.length := by
  rw [List.getElem?_map] at h
  cases e : xs[j]? with
  | none => rw [e] at h; simp at h
  | some x =>
    rw [e] at h
    have hj := (List.getElem?_eq_some_iff.1 e).1
    refine ⟨?_, hj⟩
    rw [List.getD_eq_getElem?_getD, e]
    simpa using h.symm

set_option maxHeartbeats 1000000 in
theorem lclone_any (B O cap : Nat) (xs : List Int) (w : World) (hl : 1 ≤ xs.length ∧ xs.length ≤ 7) (h : ∀ i, i < xs.length → w.cell? ⟨B, O + i, none⟩ = some (.int .i64 (xs.getD i 0))) :
    Calls Try.prog 68 #[.slice (some ⟨B, O, none⟩) xs.length cap] w (IntsPost xs w) := by
  obtain ⟨i0, hi, hz0, hz1, hz2⟩ := info_parts infoInt
  have hq : ∀ w, (binOp .eql 23 (.slice (some ⟨B, O, none⟩) xs.length cap) (.slice none 0 0)).run Try.prog w = .ok (.bool false) w := fun w => by kernel_rfl
  have hown := OwnI.made w
  have hg0 : w.grownBy (w.alloc (.cells #[] 3)) none := World.grownBy_alloc _ _ none
  have H0 := Lib.hid hg0
  have HB : Hid (∀ i, i < xs.length → (w.alloc (.cells #[] 3)).cell? ⟨B, O + i, none⟩ = some (.int .i64 (xs.getD i 0))) := fun i hi => hg0.cell (h i hi) (by simp)
  clear h hg0
  have Ho := Lib.hid hown
  clear hown
  go_enter Try.func68, Try.ntmps68
  go_wp2_with (at_builtin; refine wpList_append_own _ rfl _ _ 23 rfl w.heap.size 3 i0 (.int .i64 0) 1 8 Try.underlying23 hi hz0 hz1 hz2 rfl (by decide) _ _ _ rfl Ho.out ⟨B, O, none⟩ xs.length cap (xs.map (Value.int .i64)) rfl (by simp) ?c1 ?c2 ?c3 ?c4 ?c5 ?_)
  case c1 =>
    intro j u hj
    obtain ⟨rfl, hj2⟩ := lint_one hj
    rw [add_none]
    exact HB.out j hj2
  case c2 =>
    intro u hu
    obtain ⟨x, _, rfl⟩ := List.mem_map.1 hu
    rfl
  case c3 => unfold maxLen; simp; omega
  case c4 => simp; omega
  case c5 => simp
  intro v' w3 hown' hgrow _
  have R : RowRel xs w.heap.size w v' w3 := by
    have e : ([] : List Int).map (Value.int .i64) ++ xs.map (Value.int .i64) = xs.map (Value.int .i64) := rfl
    obtain ⟨a, cap, rfl, _, hO⟩ := ownI_shape (zs := xs) hown'
    exact ⟨a, cap, rfl, hO, grownBy_row H0.out Ho.out (Nat.le_refl _) hgrow⟩
  clear hown' hgrow
  obtain ⟨a, cap, rfl, hO, hg⟩ := R
  have HO := Lib.hid hO
  have HG := Lib.hid hg
  clear hO hg
  go_wp2
  go_ret
  exact ⟨a, cap, rfl, HO.out, HG.out⟩

theorem own_lower2 {w : World} {base base' : Nat} {a : Option Addr} {cap : Nat} {zs : List Int} (h : OwnI w base a cap zs) (hb : base' ≤ base) : OwnI w base' a cap zs :=
  ⟨h.1, h.2.imp id fun ⟨g, cap, cur, h1, h2, h3⟩ => ⟨g, cap, cur, h1, Nat.le_trans hb h2, h3⟩⟩
/-- The values behind so many places. -/
def mixK (xs : List Int) (s : Nat) (y : Bool) (k j : Nat) : Int := if j < k then ansK xs s y j else xs.getD j 0
theorem mix_step (xs : List Int) (s : Nat) (y : Bool) (k j : Nat) : mixK xs s y (k + 1) j = if j = k then ansK xs s y k else mixK xs s y k j := by
  unfold mixK
  by_cases h : j = k
  · subst h; rw [if_pos rfl, if_pos (by omega)]
  · rw [if_neg h]
    by_cases h2 : j < k
    · rw [if_pos h2, if_pos (by omega)]
    · rw [if_neg h2, if_neg (by omega)]
def ValsAre (vs : List Value) (L : Nat) (f : Nat → Int) : Prop := ∀ j, j < L → vs[j]? = some (.int .i64 (f j))
theorem vals_map {vs : List Value} {zs : List Int} (hl : vs.length = zs.length) (h : ValsAre vs zs.length fun j => zs.getD j 0) : vs = zs.map (Value.int .i64) := by
  refine List.ext_getElem (by simp [hl]) fun i h1 h2 => ?_
  have := h i (by omega)
  rw [List.getElem?_eq_getElem h1] at this
  have e := Option.some.inj this
  rw [e]
  simp only [List.getElem_map]
  rw [List.getD_eq_getElem?_getD, List.getElem?_eq_getElem (by omega), Option.getD_some]
/-- A row of its own, written into at a place. -/
def AnsR (xs : List Int) (s : Nat) (y : Bool) (g : Nat) (cap : Nat) (w : World) (i : Value) (wr : World) : Prop :=
  ∃ (k : Nat) (vs : List Value), k ≤ xs.length ∧ i = .int .i64 k ∧ wr.ownsRow w.heap.size 3 1 (.slice (some ⟨g, 0, none⟩) xs.length cap) xs.length vs ∧ ValsAre vs xs.length (mixK xs s y k) ∧ w.grownBy wr none

theorem own_some {w : World} {base : Nat} {a : Option Addr} {cap : Nat} {zs : List Int} (h : OwnI w base a cap zs) (h1 : 1 ≤ zs.length) : ∃ g, a = some ⟨g, 0, none⟩ := by
  rcases h.2 with ⟨_, h0⟩ | ⟨g, c, cur, he, _⟩
  · omega
  · simp only [Value.slice.injEq, true_and] at he
    exact ⟨g, he.1⟩

set_option maxHeartbeats 2000000 in
theorem ians_any (a : Option Addr) (cap : Nat) (xs : List Int) (s : Nat) (y : Bool) (w : World) (h : IntsAt w a xs) (hs : s ≤ 1000) (hl : 1 ≤ xs.length ∧ xs.length ≤ 3) (hx : ∀ k, k < xs.length → 0 ≤ xs.getD k 0 ∧ xs.getD k 0 ≤ 3) :
    Calls Try.prog 52 #[.slice a xs.length cap, .int .i64 s, .bool y] w (IntsPost (ansL xs s y) w) := by
  rcases h.2 with h0 | ⟨B, O, rfl, hB, hc⟩
  · rw [h0] at hl; simp at hl
  have cc := lclone_any B O cap xs w (by omega) hc
  have HC := Lib.hid hc
  have HX := Lib.hid hx
  clear h hx hc hB
  go_enter Try.func52, Try.ntmps52
  go_wp2_with fail
  refine cc.mono ?_
  rintro e w1 ⟨a1, cap1, rfl, hO, hg⟩
  clear cc
  obtain ⟨g, rfl⟩ := own_some hO hl.1
  have HO := Lib.hid hO
  have HG := Lib.hid hg
  clear hO hg
  go_wp2_with fail
  go_loopw [15] (fun i wr => AnsR xs s y g cap1 w i wr) (fun i _ => xs.length - (intOf i).toNat)
  case atStart =>
    refine ⟨0, _, by omega, rfl, HO.out, fun j hj => ?_, HG.out⟩
    unfold mixK
    rw [if_neg (by omega), List.getElem?_map, List.getD_eq_getElem?_getD, List.getElem?_eq_getElem hj]
    rfl
  case round =>
    obtain ⟨k, vs, hk, rfl, hown, hvs, hgr⟩ := hrel
    by_cases hlt : k < xs.length
    · have hc := hgr.cell (HC.out k hlt) (by simp)
      have hq := HX.out k hlt
      have hb := bit_int s k
      have hln := hown.1
      have hak : ansK xs s y k = if (bitB s k != y) = true then dn (xs.getD k 0) else xs.getD k 0 := rfl
      have hfr := World.ownsRow.frozenAt hown k
      have hce := World.ownsRow.cellAt hown k (by omega)
      have hvk := hvs k hlt
      have hnew := fun v => Lib.hid (World.ownsRow.stored hown k (.int .i64 v))
      have hgn := fun v => Lib.hid (grownBy_row hgr hown (Nat.le_refl _) (hnew v).out.2)
      have hstay : Hid (ansK xs s y k = xs.getD k 0 → ValsAre vs xs.length (mixK xs s y (k + 1))) := fun e j hj => by
        rw [mix_step]
        by_cases ej : j = k
        · subst ej
          rw [if_pos rfl, e, hvs j hj]
          unfold mixK
          rw [if_neg (by omega)]
        · rw [if_neg ej]; exact hvs j hj
      have hput : Hid (ValsAre (vs.set k (.int .i64 (ansK xs s y k))) xs.length (mixK xs s y (k + 1))) := fun j hj => by
        rw [mix_step]
        by_cases ej : j = k
        · subst ej
          rw [if_pos rfl, List.getElem?_set_self (by omega)]
        · rw [if_neg ej, List.getElem?_set_ne (by omega)]; exact hvs j hj
      rw [hvk] at hce
      have Hown := Lib.hid hown
      have Hgr := Lib.hid hgr
      have h2 : s / 2 ^ k < 2 ^ 62 := Nat.lt_of_le_of_lt (Nat.div_le_self _ _) (by omega)
      have hla := land1 h2
      have hdi : (s : Int) / 2 ^ k = ((s / 2 ^ k : Nat) : Int) := by rw [Int.natCast_ediv]; congr 1
      have hbb : (((s / 2 ^ k % 2 : Nat) : Int) == 1) = bitB s k := by
        unfold bitB
        rw [Bool.eq_iff_iff]
        simp only [beq_iff_eq]
        omega
      have i0 : (0 : Int) ≤ (k : Int) := by omega
      have i1 : (k : Int) < (xs.length : Int) := by omega
      have i3 : (k : Int) ≤ 3 := by omega
      clear hown hgr hvs hvk hb h2
      generalize s / 2 ^ k % 2 = E at *
      generalize s / 2 ^ k = D at *
      generalize xs.getD k 0 = q at *
      cases hbit : bitB s k
      · rw [hbit] at hbb hak
        clear hbit
        cases y
        · have hak : _ = q := hak
          have hst := Lib.hid (hstay.out hak)
          clear hstay hput hak hnew hgn
          go_wp2_with fail
          go_roundw
          case rel => exact ⟨k + 1, vs, by omega, by go_num, Hown.out, hst.out, Hgr.out⟩
          case measure => simp [intOf]; omega
        · have hak : _ = dn q := hak
          rw [hak] at hput
          clear hstay hak
          by_cases h1 : 0 < q - 1
          · have e : dn q = q - 1 := if_pos h1
            rw [e] at hput
            have hn := hnew (q - 1)
            have hgw := hgn (q - 1)
            clear hnew hgn e
            go_wp2_with fail
            go_roundw
            case rel => exact ⟨k + 1, _, by omega, by go_num, hn.out.1, hput.out, hgw.out⟩
            case measure => simp [intOf]; omega
          · have e : dn q = if q - 1 < 0 then 0 else q - 1 := by unfold dn; rw [if_neg h1]; split <;> omega
            rw [e] at hput
            have hn := hnew (if q - 1 < 0 then 0 else q - 1)
            have hgw := hgn (if q - 1 < 0 then 0 else q - 1)
            clear hnew hgn e
            go_wp2_with fail
            go_roundw
            case rel => exact ⟨k + 1, _, by omega, by go_num, hn.out.1, hput.out, hgw.out⟩
            case measure => simp [intOf]; omega
      · rw [hbit] at hbb hak
        clear hbit
        cases y
        · have hak : _ = dn q := hak
          rw [hak] at hput
          clear hstay hak
          by_cases h1 : 0 < q - 1
          · have e : dn q = q - 1 := if_pos h1
            rw [e] at hput
            have hn := hnew (q - 1)
            have hgw := hgn (q - 1)
            clear hnew hgn e
            go_wp2_with fail
            go_roundw
            case rel => exact ⟨k + 1, _, by omega, by go_num, hn.out.1, hput.out, hgw.out⟩
            case measure => simp [intOf]; omega
          · have e : dn q = if q - 1 < 0 then 0 else q - 1 := by unfold dn; rw [if_neg h1]; split <;> omega
            rw [e] at hput
            have hn := hnew (if q - 1 < 0 then 0 else q - 1)
            have hgw := hgn (if q - 1 < 0 then 0 else q - 1)
            clear hnew hgn e
            go_wp2_with fail
            go_roundw
            case rel => exact ⟨k + 1, _, by omega, by go_num, hn.out.1, hput.out, hgw.out⟩
            case measure => simp [intOf]; omega
        · have hak : _ = q := hak
          have hst := Lib.hid (hstay.out hak)
          clear hstay hput hak hnew hgn
          go_wp2_with fail
          go_roundw
          case rel => exact ⟨k + 1, vs, by omega, by go_num, Hown.out, hst.out, Hgr.out⟩
          case measure => simp [intOf]; omega
    · obtain rfl : k = xs.length := by omega
      have hln := hown.1
      have e := vals_map (vs := vs) (zs := ansL xs s y) (by rw [ans_len]; omega) (fun j hj => by
        rw [ans_len] at hj
        show _ = some (Value.int .i64 ((ansL xs s y).getD j 0))
        rw [hvs j hj, ans_at xs s y hj]
        unfold mixK
        rw [if_pos hj])
      rw [e] at hown
      have HF : Hid (OwnI wr w.heap.size (some ⟨g, 0, none⟩) cap1 (ansL xs s y)) := by unfold Hid OwnI; rw [ans_len]; exact hown
      clear hown hvs e hln
      go_wp2_with fail
      go_ret
      exact ⟨_, cap1, by rw [ans_len]; rfl, HF.out, hgr⟩

set_option maxHeartbeats 1000000 in
theorem iansw_any (n : Int) (a : Option Addr) (cap : Nat) (xs : List Int) (s : Int) (y : Bool) (w : World) (h : IntsAt w a xs) :
    Calls Try.prog 22 #[.int .i64 n, .slice a xs.length cap, .int .i64 s, .bool y] w (IntsPost (ansW n xs s y) w) := by
  have cg := igame_any n a cap xs w h
  have H := Lib.hid h
  clear h
  have hno : ∀ zs, zs = [] → ∀ w1, w.grownBy w1 none → Hid (IntsPost zs w (.returned (.slice none 0 0)) w1) := fun zs hz w1 hg => by rw [hz]; exact ⟨none, 0, rfl, OwnI.nil _ _, hg⟩
  cases hg : gameB n xs
  · have hp := hno (ansW n xs s y) (if_neg (by rw [hg]; simp))
    rw [hg] at cg
    clear hno
    go_enter Try.func22, Try.ntmps22
    go_wp2_with fail
    refine cg.mono ?_
    rintro e w1 ⟨rfl, g1⟩
    clear cg
    go_wp2_with fail
    go_ret
    exact (hp _ g1).out
  · rw [hg] at cg
    obtain ⟨hn, hl, hx⟩ := gameB_of hg
    have tp := two_pow hl
    have HX := Lib.hid (fun k hk => (⟨(hx k hk).1, by have := (hx k hk).2; omega⟩ : 0 ≤ xs.getD k 0 ∧ xs.getD k 0 ≤ 3))
    have hW : ∀ b, inB s 0 (2 ^ xs.length - 1) = b → ansW n xs s y = if b = true then ansL xs s.toNat y else [] := fun b hb => by unfold ansW; rw [hb, hg]; simp
    obtain ⟨P, hP⟩ : ∃ P : Int, 2 ^ xs.length = P := ⟨_, rfl⟩
    rw [hP] at tp hW
    have hsh : wrap64 (2 ^ xs.length) = P := by rw [hP]; unfold wrap64; omega
    have hsh' : IntKind.i64.wrap (2 ^ xs.length) = P := by rw [hP]; exact IntWalk.i64_in _ (by omega)
    have l3 : (xs.length : Int) ≤ 3 := by omega
    clear hx hP
    by_cases s0 : s < 0
    · have hp := hno (ansW n xs s y) (by rw [hW false (inB_f (by omega))]; simp)
      clear hno hW
      go_enter Try.func22, Try.ntmps22
      go_wp2_with fail
      refine cg.mono ?_
      rintro e w1 ⟨rfl, g1⟩
      clear cg
      go_wp2_with fail
      go_ret
      exact (hp _ g1).out
    · by_cases s1 : s < P
      · obtain ⟨S, hS⟩ := Int.eq_ofNat_of_zero_le (show 0 ≤ s by omega)
        have hW1 := hW true (inB_t (by omega))
        have c2 := fun w1 (g : w.grownBy w1 none) => ians_any a cap xs S y w1 (H.out.grown g) (by omega) hl HX.out
        have hz : Hid (ansW n xs s y = ansL xs S y) := by unfold Hid; rw [hW1, hS]; rfl
        rw [← hS] at c2
        clear hS
        have s2 : decide (P ≤ s) = false := by simpa using s1
        have s3 : decide (s < 0) = false := by simpa using s0
        clear hW hW1 hno
        go_enter Try.func22, Try.ntmps22
        go_wp2_with fail
        refine cg.mono ?_
        rintro e w1 ⟨rfl, g1⟩
        clear cg
        have G1 := Lib.hid g1
        have c3 := c2 _ g1
        clear c2 g1
        go_wp2_with fail
        refine c3.mono ?_
        rintro e w2 ⟨b, cb, rfl, hO, g2⟩
        clear c3
        have HO := Lib.hid (own_lower2 hO G1.out.size)
        have HG := Lib.hid (grownBy_trans G1.out g2)
        clear hO g2
        go_wp2_with fail
        go_ret
        exact ⟨b, cb, by rw [hz.out]; rfl, by rw [hz.out]; exact HO.out, HG.out⟩
      · have hp := hno (ansW n xs s y) (by rw [hW false (inB_f (by omega))]; simp)
        have s2 : decide (P ≤ s) = true := by simp; omega
        clear hno hW
        go_enter Try.func22, Try.ntmps22
        go_wp2_with fail
        refine cg.mono ?_
        rintro e w1 ⟨rfl, g1⟩
        clear cg
        go_wp2_with fail
        go_ret
        exact (hp _ g1).out

end Go.Proofs.Ythfikgaghinfbaa
