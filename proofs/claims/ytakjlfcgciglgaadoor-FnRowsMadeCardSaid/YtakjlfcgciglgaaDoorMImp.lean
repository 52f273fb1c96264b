/-
  impl's RowsMade: the rows that may be said, in the order of their numbers, made by a map that is filled until nothing is new.
-/
import Derived.Test.YtakjlfcgciglgaaDoorMSort
import Derived.ScopeJumps
import Derived.Laws.EntriesVeiled
namespace Go.Proofs.YtakjlfcgciglgaaDoor
open Go.RowKit Go.Maps

/-- A scope whose label is met by going on and by going back: what follows the label is walked once. -/
theorem scope_once {P : Program} {c rest : Code} {a : Act} {w : World} {Q : Exit → Act → World → Prop} (l : Nat) (J : Act → World → Prop) (μ : Act → World → Nat) (hf : findLabel c l = some (Code.seq Code.skip rest))
    (pass : ∀ a w, J a w → rest.wp P (Exit.jump l (fun a' w' => J a' w' ∧ μ a' w' < μ a w) Q) a w)
    (first : (∀ a w, J a w → rest.wp P (Exit.jump l J Q) a w) → c.wp P (Exit.jump l J Q) a w) : (Code.scope c).wp P Q a w :=
  wp_scope_jumps l J μ hf (first fun a w h => Code.wp_mono (fun e a w hq => by
    cases e with
    | goto l' => exact ⟨hq.1, hq.2.1⟩
    | _ => exact hq) (pass a w h)) fun a w h => wp_seq (wp_skip (pass a w h))

def rowsI (n : Int) : List (List Nat) := if inB n 1 4 = true then outTo n.toNat ((n.toNat + 1) ^ (n.toNat + 1)) else []
theorem rowsI_f {n : Int} (h : inB n 1 4 = false) : rowsI n = [] := if_neg (by rw [h]; simp)
theorem rowsI_t {N : Nat} (h : 1 ≤ N ∧ N ≤ 4) : rowsI N = outTo N ((N + 1) ^ (N + 1)) := by unfold rowsI; rw [if_pos (inB_t (by omega))]; rfl

set_option maxRecDepth 100000 in
set_option maxHeartbeats 2000000 in
theorem irows_no (n : Int) (w : World) (h : inB n 1 4 = false) :
    Calls Tryd.prog 5 #[.int .i64 n] w (RowsDPost n.toNat [] w) := by
  have cs := fun w => steps_any n w
  have h4 := inB_not h
  cases hi : inB n 1 6
  · rw [hi] at cs
    clear h hi
    go_enter Tryd.func5, Tryd.ntmps5
    go_wp2
    go_step3
    go_wp2_with (go_at_call 13; refine (cs _).mono ?_; rintro e w' ⟨rfl, rfl⟩)
    rw [Exit.noGoto_ret]
    go_ret
    exact ⟨_, rfl, ListD.nilL _ _ _, World.grownBy_alloc _ _ none⟩
  · rw [hi] at cs
    have h6 := inB_of hi
    have hgt : (4 : Int) < n := by omega
    clear h hi h4
    go_enter Tryd.func5, Tryd.ntmps5
    go_wp2
    go_step3
    go_wp2_with (go_at_call 13; refine (cs _).mono ?_; rintro e w' ⟨rfl, rfl⟩)
    rw [Exit.noGoto_ret]
    go_ret
    exact ⟨_, rfl, ListD.nilL _ _ _, World.grownBy_alloc _ _ none⟩

theorem look_fol {w : World} {b : Nat} (h : w.ownsMap Tryd.prog 9 anyElem b 5 signsD) :
    (Instr.lookup 37 (.map (some b)) (.string ⟨#[62]⟩) false).run Tryd.prog w = .ok (.func (.func 29) #[] #[]) w := by
  obtain ⟨v, ps, hrun, hv⟩ := h.lookup keyedS Tryd.underlying37 (zeroSign _) (zd := .held .nilFunc) (zp := []) rfl (signK_of 62)
  rw [signs_fol.1] at hv
  simp [anyElem] at hv
  rw [hrun, hv.1]
  rfl

def mapB : Value → Nat
  | .map (some b) => b
  | _ => 0
theorem keyI_of {c : Nat} (h : c ≤ 100000) : keyOf Tryd.prog 3 (.int .i64 (c : Int)) = some (keyC c) := keyOf_int_mk Tryd.underlying3 (WalkArith.wf_i64 (by omega))
/-- The list's shape, and where its row i lies: all of it in blocks of the call's own. -/
theorem ListD.at2 {w : World} {base N : Nat} {v : Value} {rs : List (List Nat)} (h : ListD w base N v rs) (hN : N ≤ 1000) {i : Nat} (hi : i < rs.length) :
    ∃ g c gi ci, v = .slice (some ⟨g, 0, none⟩) rs.length c ∧ base ≤ g ∧ w.cell? ⟨g, i, none⟩ = some (.slice (some ⟨gi, 0, none⟩) (N + 1) ci) ∧ base ≤ gi ∧ IntsAt w (some ⟨gi, 0, none⟩) (rI (rs.getD i [])) := by
  obtain ⟨vals, h1, h2, _⟩ := h
  obtain ⟨u, h3, h4⟩ := h2 i hi
  have h5 := h4
  obtain ⟨gi, ci, rfl, hI⟩ := h5.ints hN
  obtain ⟨_, g', c', he, ho⟩ := h4
  cases he
  have hb := (World.ownsRow.lt ho gi rfl).1
  rcases h1.2 with ⟨rfl, h0⟩ | ⟨g, c, cur, rfl, hb2, hg, _⟩
  · rw [h0] at hi; exact absurd hi (Nat.not_lt_zero i)
  · exact ⟨g, c, gi, ci, rfl, hb2, by rw [World.ownsRow.cellAt h1 i (by omega), h3], hb, hI⟩
theorem far_row {gi b S : Nat} (h : S ≤ gi) (hb : b < S) : ∀ x : Addr, some (⟨gi, 0, none⟩ : Addr) = some x → some x.block ≠ some b := fun x hx e => by
  cases hx
  have h2 : gi = b := by simpa using e
  omega
theorem grownBy_row1 {a b : World} (h : a.grownBy b none) (r : Option Nat) : a.grownBy b r := ⟨h.os, h.tape, h.output, h.size, fun i hi _ => h.block i hi (by simp)⟩
theorem grownBy_up {a b c : World} {B : Nat} (h : a.grownBy b none) (k : b.grownBy c (some B)) (hB : a.heap.size ≤ B) : a.grownBy c none :=
  ⟨k.os.trans h.os, k.tape.trans h.tape, k.output.trans h.output, Nat.le_trans h.size k.size, fun i hi _ => (k.block i (Nat.lt_of_lt_of_le hi h.size) (by simp; omega)).trans (h.block i hi (by simp))⟩

/-- What holds at the label. -/
def MjAt (N : Nat) (w : World) (a' : Act) (w' : World) : Prop :=
  ∃ (cs : List Nat) (D : DataW Value) (n B2 b : Nat) (u6 u7 u8 u9 u10 u11 u12 u13 u14 u15 u16 u17 u18 u19 u20 u21 u22 u23 u24 u25 u26 u27 u28 u29 u30 u31 u32 u33 u34 u35 u36 u37 u38 u39 u40 u41 u42 u43 u44 u45 u46 u47 u48 u49 u50 u51 u52 : Value),
    a' = { tmps := #[.int .i64 N, .pointer (some ⟨w.heap.size, 0, none⟩), .slice none 0 0, .pointer (some ⟨B2, 0, none⟩), .func (.func 15) #[] #[.pointer (some ⟨w.heap.size, 0, none⟩), .pointer (some ⟨B2, 0, none⟩)], .map (some b), u6, u7, u8, u9, u10, u11, u12, u13, u14, u15, u16, u17, u18, u19, u20, u21, u22, u23, u24, u25, u26, u27, u28, u29, u30, u31, u32, u33, u34, u35, u36, u37, u38, u39, u40, u41, u42, u43, u44, u45, u46, u47, u48, u49, u50, u51, u52], defers := [] } ∧
    w'.ownsMap Tryd.prog 3 anyElem b n D ∧ KeysAre D cs ∧ GoodC N cs ∧ w'.cell? ⟨w.heap.size, 0, none⟩ = some (.int .i64 N) ∧ w'.cell? ⟨B2, 0, none⟩ = some (.func (.func 29) #[] #[]) ∧ w.heap.size < b ∧ B2 < b ∧ w.grownBy w' none


/-- The same of the world alone, the map one block behind another one. -/
def MjAt2 (N : Nat) (w : World) (B2 : Nat) (w' : World) : Prop :=
  ∃ (cs : List Nat) (D : DataW Value) (n : Nat), w'.ownsMap Tryd.prog 3 anyElem (B2 + 1) n D ∧ KeysAre D cs ∧ GoodC N cs ∧ w'.cell? ⟨w.heap.size, 0, none⟩ = some (.int .i64 N) ∧ w'.cell? ⟨B2, 0, none⟩ = some (.func (.func 29) #[] #[]) ∧ w.heap.size < B2 + 1 ∧ B2 < B2 + 1 ∧ w.grownBy w' none
theorem goodC_swap {n : Nat} (hn : 1 ≤ n) : GoodC n (addC (addC [] (codeR (n + 1) (ownR n))) 0) := by
  have h := goodC_start hn
  have e : addC [] (codeR (n + 1) (ownR n)) = [codeR (n + 1) (ownR n)] := rfl
  have hm : ∀ c, c ∈ addC (addC [] (codeR (n + 1) (ownR n))) 0 ↔ c ∈ addC (addC [] 0) (codeR (n + 1) (ownR n)) := fun c => by
    rw [addC_mem, addC_mem, addC_mem, addC_mem]
    simp [or_comm]
  refine ⟨?_, fun c hc => h.lt c ((hm c).1 hc), fun c hc => h.say c ((hm c).1 hc), (hm _).2 h.own, (hm _).2 h.zer⟩
  rw [e]
  unfold addC
  split
  · simp
  · rename_i h0
    simp at h0
    simp [Ne.symm h0]

/-- What holds at the head of a round for one row: what is made so far, i rows put together with all. -/
def MoRel (N b : Nat) (cs : List Nat) (rs : List (List Nat)) (w2 : World) (i : Value) (wq : World) : Prop :=
  ∃ (k : Nat) (ds : List Nat) (D : DataW Value), k ≤ rs.length ∧ i = .int .i64 k ∧ wq.ownsMap Tryd.prog 3 anyElem b (Maps.size D) D ∧ KeysAre D ds ∧ GoodC N ds ∧ (∀ x ∈ cs, x ∈ ds) ∧ DoneC N rs ds k 0 ∧ w2.grownBy wq (some b)
def MiRel (N b i : Nat) (cs : List Nat) (rs : List (List Nat)) (w2 : World) (j : Value) (wq : World) : Prop :=
  ∃ (k : Nat) (ds : List Nat) (D : DataW Value), k ≤ rs.length ∧ j = .int .i64 k ∧ wq.ownsMap Tryd.prog 3 anyElem b (Maps.size D) D ∧ KeysAre D ds ∧ GoodC N ds ∧ (∀ x ∈ cs, x ∈ ds) ∧ DoneC N rs ds i k ∧ w2.grownBy wq (some b)

set_option maxRecDepth 100000 in
set_option maxHeartbeats 8000000 in
theorem irows_yes (N : Nat) (hN : 1 ≤ N ∧ N ≤ 4) (w : World) :
    Calls Tryd.prog 5 #[.int .i64 N] w (RowsDPost N (outTo N ((N + 1) ^ (N + 1))) w) := by
  have cs := fun w => steps_any N w
  rw [inB_t (n := (N : Int)) (by omega)] at cs
  have ca := fun w => asc_any N hN w
  have hmm : ∀ w, (Instr.makeMap 39 none).run Tryd.prog w = .ok (.map (some w.heap.size)) (w.alloc (.map #[] 0)) := fun _ => rfl
  have hAc : codeR (N + 1) (ownR N) ≤ 3125 := by have := code_lt (say_well (say_own N)); have := pow_small hN.2 (k := N + 1) (by omega); omega
  have hPw : (N + 1) ^ (N + 1) ≤ 3125 := pow_small hN.2 (by omega)
  go_enter Tryd.func5, Tryd.ntmps5
  go_wp2
  refine scope_once 0 (MjAt N w) (fun a' w' => 3126 - entN (mapB (a'.tmps.getD 5 undef)) w') rfl ?_ ?_
  · rintro a' wr ⟨ks, D, n, B2, b, u6, u7, u8, u9, u10, u11, u12, u13, u14, u15, u16, u17, u18, u19, u20, u21, u22, u23, u24, u25, u26, u27, u28, u29, u30, u31, u32, u33, u34, u35, u36, u37, u38, u39, u40, u41, u42, u43, u44, u45, u46, u47, u48, u49, u50, u51, u52, rfl, hown, hk, hg, h1, h2, hB1, hB2, hgr⟩
    clear cs ca hmm
    have cr := rowsOf_any N hN b n D anyElem ks wr hown hk hg
    have hbr := hown.lt
    have hown0 := own_tight hown
    have hlen := rowsC_len hg
    have hbnd : ks.length ≤ 3125 := Nat.le_trans (goodC_len hg) hPw
    have hpos : 0 < ks.length := List.length_pos_of_mem hg.zer
    have Hall := Lib.hid (fun (ds : List Nat) (hs : ∀ x ∈ ks, x ∈ ds) (hl : ds.length ≤ ks.length) (hd : DoneC N (rowsC N ks) ds ks.length 0) => doneC_all hN hg hs hl hd)
    have Hsay := Lib.hid (fun (i : Nat) (hi : i < ks.length) => rowsC_say hg hi)
    have hent : Hid (entN b wr = ks.length) := by unfold Hid; rw [entN_own hown, hk.size]
    generalize rowsC N ks = rs at *
    have Hk := Lib.hid hk
    have Hg := Lib.hid hg
    have Ho := Lib.hid hown0
    have H1 := Lib.hid h1
    have H2 := Lib.hid h2
    have Hgr := Lib.hid hgr
    clear hk hg hown hown0 h2 hgr
    go_wp2_with (go_at_call 18; refine cr.mono ?_; rintro e w2 ⟨v2, rfl, hL, g2⟩; obtain ⟨g, c, gi0, ci0, rfl, _, _, _, _⟩ := hL.at2 (by omega) (i := 0) (by omega); have HLs := Lib.hid hL; have Hg2 := Lib.hid g2; clear hL cr h1)
    clear g2
    have hs2 := Hg2.out.size
    go_loopw [30] (fun i wq => MoRel N b ks rs w2 i wq) (fun i _ => rs.length - (RowKit.intOf i).toNat)
    case atStart => exact ⟨0, ks, D, by omega, rfl, Ho.out.kept Hg2.out (by simp), Hk.out, Hg.out, fun x h => h, doneC_0 _ _ _, grownBy_refl _ _⟩
    case round =>
      obtain ⟨i, ds, D1, hi, rfl, ho1, hk1, hg1, hs1, hd1, hgq⟩ := hrel
      by_cases hlt : i < rs.length
      · obtain ⟨g', c', gi, ci, he, hbg, hcell, hgi, hI⟩ := HLs.out.at2 (by omega) hlt
        cases he
        have n1 := hgq.cell hcell (by simp; omega)
        have i0' : (0 : Int) ≤ (i : Int) := by omega
        have i1' : (i : Int) < (ks.length : Int) := by omega
        have i2' : i < ks.length := by omega
        clear hlt
        have HI := Lib.hid hI
        have Ho1 := Lib.hid ho1
        have Hk1 := Lib.hid hk1
        have Hg1 := Lib.hid hg1
        have Hs1 := Lib.hid hs1
        have Hd1 := Lib.hid hd1
        have Hgq := Lib.hid hgq
        clear hcell hI ho1 hk1 hg1 hs1 hd1 hgq
        go_wp2_with fail
        clear n1
        go_loopw [36] (fun j wx => MiRel N b i ks rs w2 j wx) (fun j _ => rs.length - (RowKit.intOf j).toNat)
        case atStart => exact ⟨0, ds, D1, by omega, rfl, Ho1.out, Hk1.out, Hg1.out, Hs1.out, Hd1.out, Hgq.out⟩
        case round =>
          obtain ⟨j, es, D2, hj, rfl, ho2, hk2, hg2, hs3, hd2, hgx⟩ := hrel
          by_cases hlt2 : j < rs.length
          · obtain ⟨g', c', gj, cj, he, _, hcell2, hgj, hJ⟩ := HLs.out.at2 (by omega) hlt2
            cases he
            have n2 := hgx.cell hcell2 (by simp; omega)
            have j0' : (0 : Int) ≤ (j : Int) := by omega
            have j1' : (j : Int) < (ks.length : Int) := by omega
            have j2' : j < ks.length := by omega
            clear hlt2
            have si := Hsay.out i (by omega)
            have sj := Hsay.out j (by omega)
            have cf := fold_any N hN (some ⟨gi, 0, none⟩) (some ⟨gj, 0, none⟩) ci cj (rs.getD i []) (rs.getD j []) (say_well si) (say_well sj) w.heap.size B2 _ (HI.out.kept hgx (far_row hgi hbr)) (hJ.kept hgx (far_row hgj hbr))
              (hgx.cell (Hg2.out.cell H1.out (by simp)) (by simp; omega)) (hgx.cell (Hg2.out.cell H2.out (by simp)) (by simp; omega))
            have hc0 : codeR (N + 1) (folR N (rs.getD i []) (rs.getD j [])) ≤ 3125 := by have := code_lt (say_well (say_fol si sj)); omega
            have hkey := keyI_of (c := codeR (N + 1) (folR N (rs.getD i []) (rs.getD j []))) (by omega)
            have hsz : Maps.size D2 ≤ 3125 := by rw [hk2.size]; exact Nat.le_trans (goodC_len hg2) hPw
            have K3 := Lib.hid (keys_put hk2 (codeR (N + 1) (folR N (rs.getD i []) (rs.getD j []))) (.held (.bool true)))
            have G3 := Lib.hid (goodC_put hg2 (say_fol si sj))
            have S3 : Hid (∀ x ∈ ks, x ∈ addC es (codeR (N + 1) (folR N (rs.getD i []) (rs.getD j [])))) := fun x hx => (addC_mem _ _ _).2 (.inl (hs3 x hx))
            have D3 := Lib.hid (doneC_put hd2)
            have Ho2 := Lib.hid ho2
            have Hgx := Lib.hid hgx
            clear hcell2 hJ hk2 hg2 hs3 hd2 si sj ho2 hgx
            generalize codeR (N + 1) (folR N (rs.getD i []) (rs.getD j [])) = c0 at *
            go_wp2_with (first
              | (go_at_call 19; refine cf.mono ?_; rintro e w5 ⟨rfl, g5⟩; have o5 := Ho2.out.kept g5 (by simp))
              | (at_mapUpdate; refine wpList_mapUpdate_own _ rfl _ _ _ 39 rfl 3 4 keyedI Tryd.underlying39 _ b (Maps.size D2) D2 rfl o5 (by unfold maxLen; omega) (.int .i64 (c0 : Int)) (.bool true) (keyC c0) rfl rfl hkey (.held (.bool true)) [] rfl ?_; intro w6 o6 g6))
            go_roundw
            case rel => exact ⟨j + 1, addC es c0, _, by omega, by go_num, own_tight o6, K3.out, G3.out, S3.out, D3.out, Hgx.out.trans ((grownBy_row1 g5 _).trans g6)⟩
            case measure => simp [RowKit.intOf]; omega
          · obtain rfl : j = rs.length := by omega
            have Ho2 := Lib.hid ho2
            have Hk2 := Lib.hid hk2
            have Hg3 := Lib.hid hg2
            have Hs3 := Lib.hid hs3
            have Hd2 := Lib.hid (doneC_next hd2)
            have Hgx := Lib.hid hgx
            clear ho2 hk2 hg2 hs3 hd2 hgx
            go_wp2_with fail
            go_roundw
            case rel => exact ⟨i + 1, es, D2, by omega, by go_num, Ho2.out, Hk2.out, Hg3.out, Hs3.out, Hd2.out, Hgx.out⟩
            case measure => simp [RowKit.intOf]; omega
      · obtain rfl : i = rs.length := by omega
        have hsz : ds.length ≤ 3125 := Nat.le_trans (goodC_len hg1) hPw
        have hms := hk1.size
        have hgw : Hid (w.grownBy _ none) := grownBy_up (grownBy_trans Hgr.out Hg2.out) hgq (by omega)
        have Hk1 := Lib.hid hk1
        have Hg1 := Lib.hid hg1
        have Hs1 := Lib.hid hs1
        have Hd1 := Lib.hid hd1
        have Hgq := Lib.hid hgq
        have Ho1 := Lib.hid ho1
        clear hk1 hg1 hs1 hd1 hgq ho1
        by_cases hcmp : rs.length < ds.length
        · have hcI : (rs.length : Int) < (ds.length : Int) := by omega
          go_wp2_with (at_len; refine wpList_len_own _ rfl _ 39 rfl 3 4 Tryd.underlying39 _ b (Maps.size D1) D1 rfl Ho1.out ?_; rw [hms])
          go_step3
          refine ⟨rfl, ⟨ds, D1, Maps.size D1, B2, b, _, _, _, _, _, _, _, _, _, _, _, _, _, _, _, _, _, _, _, _, _, _, _, _, _, _, _, _, _, _, _, _, _, _, _, _, _, _, _, _, _, _, _, _, _, _, _, rfl, Ho1.out, Hk1.out, Hg1.out, Hgq.out.cell (Hg2.out.cell H1.out (by simp)) (by simp; omega), Hgq.out.cell (Hg2.out.cell H2.out (by simp)) (by simp; omega), hB1, hB2, hgw.out⟩, ?_⟩
          have q1 := entN_own Ho1.out
          have q2 := hent.out
          show 3126 - entN b _ < 3126 - entN b _
          rw [q1, q2, hms]
          omega
        · have hcI : ¬ ((rs.length : Int) < (ds.length : Int)) := by omega
          go_wp2_with (at_len; refine wpList_len_own _ rfl _ 39 rfl 3 4 Tryd.underlying39 _ b (Maps.size D1) D1 rfl Ho1.out ?_; rw [hms])
          simp only [Exit.jump]
          go_ret
          have h := (HLs.out.below hbr Hgq.out).mono Hgr.out.size
          have hfin := Hall.out ds Hs1.out (by omega) (by rw [← hlen]; exact Hd1.out)
          rw [hlen] at h
          rw [hfin] at h
          exact ⟨_, rfl, h, hgw.out⟩
  · intro hrest
    go_wp2_with (first
      | (go_at_call 13; refine (cs _).mono ?_; rintro e w' ⟨rfl, rfl⟩)
      | (go_at_call 14; refine (signs_any _).mono ?_; rintro e w2 ⟨rfl, ho, hg⟩; have hl : (Instr.lookup 37 (.map (some (w.heap.size + 1))) (.string ⟨#[62]⟩) false).run Tryd.prog w2 = .ok (.func (.func 29) #[] #[]) w2 := by simpa using look_fol ho))
    have n2 : (w.alloc (.cells #[.int .i64 N] 3)).cell? ⟨w.heap.size, 0, none⟩ = some (.int .i64 N) := by simp
    have n3 : (w2.alloc (.cells #[.func (.func 29) #[] #[]] 36)).cell? ⟨w.heap.size, 0, none⟩ = some (.int .i64 N) := (grownBy_trans hg (World.grownBy_alloc w2 _ none)).cell n2 (by simp)
    have f3 : (w2.alloc (.cells #[.func (.func 29) #[] #[]] 36)).cell? ⟨w2.heap.size, 0, none⟩ = some (.func (.func 29) #[] #[]) := by simp
    have g3 : w.grownBy (w2.alloc (.cells #[.func (.func 29) #[] #[]] 36)) none := grownBy_trans (grownBy_trans (World.grownBy_alloc w _ none) hg) (World.grownBy_alloc w2 _ none)
    have s3 : (w2.alloc (.cells #[.func (.func 29) #[] #[]] 36)).heap.size = w2.heap.size + 1 := by simp
    have s2 := hg.size
    simp only [World.size_alloc] at s2
    clear hl ho hg n2
    generalize w2.alloc (.cells #[.func (.func 29) #[] #[]] 36) = w3 at *
    have o0 : (w3.alloc (.map #[] 0)).drew.ownsMap Tryd.prog 3 anyElem (w2.heap.size + 1) 0 (DataW.map [] : DataW Value) := by
      have h := (World.ownsMap_made w3 Tryd.prog 3 (anyElem)).drew
      rw [s3] at h
      exact h
    have g0 : w3.grownBy (w3.alloc (.map #[] 0)).drew none := grownBy_trans (World.grownBy_alloc w3 _ none) (grownBy_drew (grownBy_refl _ none))
    have n0 := g0.cell n3 (by simp)
    have n0' : (w3.alloc (.map #[] 0)).cell? ⟨w.heap.size, 0, none⟩ = some (.int .i64 N) := n0
    have nd : w3.drew.cell? ⟨w.heap.size, 0, none⟩ = some (.int .i64 N) := n3
    obtain ⟨W1, e1, q1, t1⟩ := o0.update keyedI Tryd.underlying39 (by unfold maxLen; omega) (keyI_of (c := 0) (by omega)) (val := .bool true) (d := .held (.bool true)) (ps := []) rfl
    obtain ⟨W2, e2, q2, t2⟩ := q1.update keyedI Tryd.underlying39 (by unfold maxLen; omega) (keyI_of (c := codeR (N + 1) (ownR N)) (by omega)) (val := .bool true) (d := .held (.bool true)) (ps := []) rfl
    obtain ⟨W3, e3, q3, t3⟩ := o0.update keyedI Tryd.underlying39 (by unfold maxLen; omega) (keyI_of (c := codeR (N + 1) (ownR N)) (by omega)) (val := .bool true) (d := .held (.bool true)) (ps := []) rfl
    obtain ⟨W4, e4, q4, t4⟩ := q3.update keyedI Tryd.underlying39 (by unfold maxLen; omega) (keyI_of (c := 0) (by omega)) (val := .bool true) (d := .held (.bool true)) (ps := []) rfl
    have hne : some w.heap.size ≠ some (w2.heap.size + 1) := by simp; omega
    have hne2 : some w2.heap.size ≠ some (w2.heap.size + 1) := by simp
    have m1 := t1.cell n0 hne
    have p1 : Sem.run Tryd.prog (Instr.mapUpdate 39 (.map (some (w2.heap.size + 1))) (.int .i64 0) (.bool true)) (w3.alloc (.map #[] 0)).drew = .ok () W1 := e1
    have p4 : Sem.run Tryd.prog (Instr.mapUpdate 39 (.map (some (w2.heap.size + 1))) (.int .i64 0) (.bool true)) W3 = .ok () W4 := e4
    have K2 : KeysAre (((DataW.map [] : DataW Value).put (keyC 0) (.held (.bool true))).put (keyC (codeR (N + 1) (ownR N))) (.held (.bool true))) _ := keys_put (keys_put keys_none 0 _) (codeR (N + 1) (ownR N)) _
    have K4 : KeysAre (((DataW.map [] : DataW Value).put (keyC (codeR (N + 1) (ownR N))) (.held (.bool true))).put (keyC 0) (.held (.bool true))) _ := keys_put (keys_put keys_none (codeR (N + 1) (ownR N)) _) 0 _
    have J2 : Hid (MjAt2 N w w2.heap.size W2) := ⟨_, _, _, q2, K2, goodC_start hN.1, (t2.cell (t1.cell n0 hne) hne), t2.cell (t1.cell (g0.cell f3 (by simp)) hne2) hne2, by omega, by omega, grownBy_up (grownBy_up (grownBy_trans g3 g0) t1 (by omega)) t2 (by omega)⟩
    have J4 : Hid (MjAt2 N w w2.heap.size W4) := ⟨_, _, _, q4, K4, goodC_swap hN.1, (t4.cell (t3.cell n0 hne) hne), t4.cell (t3.cell (g0.cell f3 (by simp)) hne2) hne2, by omega, by omega, grownBy_up (grownBy_up (grownBy_trans g3 g0) t3 (by omega)) t4 (by omega)⟩
    clear e1 e4 K2 K4 q1 q2 q3 q4 t1 t2 t3 t4 o0 g0 g3 f3
    go_region_with (go_at_call 17; refine (ca _).mono ?_; rintro e w' ⟨rfl, rfl⟩)
    all_goals
      go_wp2
      go_step3
      rename_i Kx hKx
      refine hKx _ _ (hrest _ _ ?_)
      first
        | (obtain ⟨ks, D, n, h⟩ := J2.out; exact ⟨ks, D, n, w2.heap.size, w2.heap.size + 1, _, _, _, _, _, _, _, _, _, _, _, _, _, _, _, _, _, _, _, _, _, _, _, _, _, _, _, _, _, _, _, _, _, _, _, _, _, _, _, _, _, _, _, _, _, _, _, rfl, h⟩)
        | (obtain ⟨ks, D, n, h⟩ := J4.out; exact ⟨ks, D, n, w2.heap.size, w2.heap.size + 1, _, _, _, _, _, _, _, _, _, _, _, _, _, _, _, _, _, _, _, _, _, _, _, _, _, _, _, _, _, _, _, _, _, _, _, _, _, _, _, _, _, _, _, _, _, _, _, rfl, h⟩)

end Go.Proofs.YtakjlfcgciglgaaDoor
