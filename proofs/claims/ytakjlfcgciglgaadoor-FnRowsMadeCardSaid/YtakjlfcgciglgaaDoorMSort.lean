/-
  impl's folded at what RowsMade hands it; impl's rowsOfNumbers: the keys of a map of numbers, sorted by the library, and a new row for each.
-/
import Derived.Test.YtakjlfcgciglgaaDoorMNum
import Derived.Test.YtakjlfcgciglgaaDoorSignMap
import Derived.Test.YtakjlfcgciglgaaDoorFVal
import Derived.Test.YtakjlfcgciglgaaDoorShf
namespace Go.Proofs.YtakjlfcgciglgaaDoor
open Go.RowKit

theorem folW_k {N a b : Nat} (hN : 1 ≤ N ∧ N ≤ 6) (ha : a ≤ N) (hb : b ≤ N) : folW N a b = ((folN N a b : Nat) : Int) := by
  rw [fol_raw (vokB_t (by omega)) (vokB_t (by omega))]
  unfold folN
  by_cases h : N - a + b ≤ N
  · rw [if_pos h, if_pos (by omega)]; omega
  · rw [if_neg h, if_neg (by omega)]
theorem wellR_fol {N : Nat} {x y : List Nat} (hx : wellR N x) (hy : wellR N y) : wellR N (folR N x y) := by
  refine ⟨folR_len hx.1 hy.1, fun d hd => ?_⟩
  obtain ⟨i, hi, rfl⟩ := List.mem_iff_getElem.1 hd
  have hl := folR_len hx.1 hy.1
  have h := folR_at (n := N) hx.1 hy.1 (v := i) (by omega)
  rw [List.getD_eq_getElem?_getD, List.getElem?_eq_getElem hi, Option.getD_some] at h
  rw [h]
  have := folN_le N (x.getD i 0) (y.getD i 0)
  omega
theorem well_at {N : Nat} {x : List Nat} (hx : wellR N x) {i : Nat} (hi : i ≤ N) : x.getD i 0 ≤ N := by
  have hl := hx.1
  have := hx.2 (x[i]'(by omega)) (List.getElem_mem _)
  rw [List.getD_eq_getElem?_getD, List.getElem?_eq_getElem (by omega), Option.getD_some]
  omega

set_option maxHeartbeats 1000000 in
theorem mk1_any (N C a b CB : Nat) (hN : 1 ≤ N ∧ N ≤ 4) (ha : a ≤ N) (hb : b ≤ N) (hm : C * (N + 1) = CB) (hCB : CB + folN N a b ≤ 100000) (hC : C ≤ 100000) (B1 B2 : Nat) (w : World)
    (h1 : w.cell? ⟨B1, 0, none⟩ = some (.int .i64 N)) (h2 : w.cell? ⟨B2, 0, none⟩ = some (.func (.func 29) #[] #[])) :
    Calls Tryd.prog 15 #[.int .i64 C, .int .i64 a, .int .i64 b, .pointer (some ⟨B1, 0, none⟩), .pointer (some ⟨B2, 0, none⟩)] w fun e w' => e = .returned (.int .i64 ((CB : Int) + ((folN N a b : Nat) : Int))) ∧ w.grownBy w' none := by
  have c1 := fun w => fol_lit N a b (twoB_mk (vokB_t (by omega)) (vokB_t (by omega))) w
  rw [folW_k (by omega) ha hb] at c1
  have c2 := fun w => withP_any N C (folN N a b) CB hm hCB hC hN.2 w
  clear hm
  generalize folN N a b = d at *
  have Q1 : ∀ (w : World) (m : Nat), Calls Tryd.prog 29 #[.int .i64 N, .int .i64 a, .int .i64 b] (w.drewN m) fun e w'' => e = .returned (.int .i64 d) ∧ ∃ m, w'' = w.drewN m := fun w m => Calls.quiet_of_same ((c1 _).mono fun _ _ p => ⟨p.1, p.2.symm⟩)
  have Q2 : ∀ (w : World) (m : Nat), Calls Tryd.prog 16 #[.int .i64 N, .int .i64 C, .int .i64 d] (w.drewN m) fun e w'' => e = .returned (.int .i64 ((CB : Int) + (d : Int))) ∧ ∃ m, w'' = w.drewN m := fun w m => Calls.quiet_of_same ((c2 _).mono fun _ _ p => ⟨p.1, p.2.symm⟩)
  clear c1 c2
  go_enter Tryd.func15, Tryd.ntmps15
  go_wp2_with fail
  go_quiet (first | (go_at_call 29; exact Q1 _ _) | (go_at_call 16; exact Q2 _ _))
  go_wp2
  go_ret
  exact ⟨rfl, grownBy_drewN (grownBy_refl _ _) _⟩

def FdRel (b : Nat) (r : List Nat) (w : World) (c i : Value) (wr : World) : Prop := ∃ k : Nat, k ≤ r.length ∧ i = .int .i64 k ∧ c = .int .i64 (codeR b (r.take k) : Int) ∧ w.grownBy wr none

set_option maxRecDepth 100000 in
set_option maxHeartbeats 2000000 in
theorem fold_any (N : Nat) (hN : 1 ≤ N ∧ N ≤ 4) (a b : Option Addr) (ca cb : Nat) (x y : List Nat) (hx : wellR N x) (hy : wellR N y) (B1 B2 : Nat) (w : World) (ix : IntsAt w a (rI x)) (iy : IntsAt w b (rI y))
    (h1 : w.cell? ⟨B1, 0, none⟩ = some (.int .i64 N)) (h2 : w.cell? ⟨B2, 0, none⟩ = some (.func (.func 29) #[] #[])) :
    Calls Tryd.prog 19 #[.slice a (N + 1) ca, .slice b (N + 1) cb, .int .i64 0, .func (.func 15) #[] #[.pointer (some ⟨B1, 0, none⟩), .pointer (some ⟨B2, 0, none⟩)]] w fun e w' => e = .returned (.int .i64 (codeR (N + 1) (folR N x y) : Int)) ∧ w.grownBy w' none := by
  have hf := wellR_fol hx hy
  have hl := hf.1
  have HF := Lib.hid hf
  have Hx := Lib.hid hx
  have Hy := Lib.hid hy
  have Ix := Lib.hid ix
  have Iy := Lib.hid iy
  have H1 := Lib.hid h1
  have H2 := Lib.hid h2
  have HL := Lib.hid hl
  clear hf hl hx hy ix iy h1 h2
  go_enter Tryd.func19, Tryd.ntmps19
  go_wp2_with fail
  go_loopw [9, 15] (fun s i wr => FdRel (N + 1) (folR N x y) w s i wr) (fun _ i _ => N + 1 - (RowKit.intOf i).toNat)
  case atStart => exact ⟨0, by omega, rfl, rfl, grownBy_refl _ _⟩
  case round =>
    obtain ⟨k, hk, rfl, rfl, hgr⟩ := hrel
    have hk2 : k ≤ N + 1 := by have := HL.out; omega
    have b1 := code_bound (by omega) HF.out hk2
    clear hk
    by_cases hlt : k ≤ N
    · have hkx : k < (rI x).length := by rw [rI_len]; have := Hx.out.1; omega
      have hky : k < (rI y).length := by rw [rI_len]; have := Hy.out.1; omega
      rcases (Ix.out.grown hgr).2 with h0 | ⟨bx, ox, rfl, hbx, hcx⟩
      · rw [h0] at hkx; simp at hkx
      rcases (Iy.out.grown hgr).2 with h0 | ⟨by', oy, rfl, hby, hcy⟩
      · rw [h0] at hky; simp at hky
      have hc1 := hcx k hkx
      have hc2 := hcy k hky
      rw [rI_at] at hc1 hc2
      have i0 : (0 : Int) ≤ (k : Int) := by omega
      have i1 : (k : Int) < (N : Int) + 1 := by omega
      have b2 := code_bound (by omega) HF.out (k := k + 1) (by omega)
      have hnx : Hid (codeR (N + 1) ((folR N x y).take (k + 1)) = codeR (N + 1) ((folR N x y).take k) * (N + 1) + folN N (x.getD k 0) (y.getD k 0)) := by
        have := code_take (b := N + 1) (r := folR N x y) (k := k) (by have := HL.out; omega)
        rw [folR_at Hx.out.1 Hy.out.1 hlt] at this
        exact this
      have b3 : codeR (N + 1) ((folR N x y).take k) * (N + 1) + folN N (x.getD k 0) (y.getD k 0) ≤ 3125 := by rw [← hnx.out]; exact b2
      have cm := mk1_any N (codeR (N + 1) ((folR N x y).take k)) (x.getD k 0) (y.getD k 0) _ hN (well_at Hx.out hlt) (well_at Hy.out hlt) rfl (by omega) (by omega) B1 B2 wr (hgr.cell H1.out (by simp)) (hgr.cell H2.out (by simp))
      clear b2 hcx hcy hbx hby hkx hky
      generalize codeR (N + 1) ((folR N x y).take k) * (N + 1) = CB at *
      generalize codeR (N + 1) ((folR N x y).take k) = C at *
      generalize folN N (x.getD k 0) (y.getD k 0) = d at *
      generalize x.getD k 0 = p at *
      generalize y.getD k 0 = q at *
      go_wp2_with (go_at_call 15; refine cm.mono ?_; rintro e w2 ⟨rfl, g2⟩)
      go_roundw
      case rel => exact ⟨k + 1, by have := HL.out; omega, by go_num, by rw [hnx.out]; simp, grownBy_trans hgr g2⟩
      case measure => simp [RowKit.intOf]; omega
    · obtain rfl : k = N + 1 := by omega
      have he : Hid (codeR (N + 1) ((folR N x y).take (N + 1)) = codeR (N + 1) (folR N x y)) := by unfold Hid; rw [List.take_of_length_le (by have := HL.out; omega)]
      go_wp2_with fail
      go_ret
      exact ⟨by rw [← he.out]; rfl, hgr⟩

open Go.Maps Go.Sort Go.Shelf

theorem keyedI : Keyed Tryd.prog 3 := int_keyed Tryd.underlying3
theorem own_monoS {w : World} {base b2 : Nat} {e : TypeId} {v : Value} {n : Nat} {xs : List Value} (h : w.ownsRow base e 1 v n xs) (hb : b2 ≤ base) : w.ownsRow b2 e 1 v n xs := by
  refine ⟨h.1, ?_⟩
  rcases h.2 with ⟨h1, h2⟩ | ⟨g, c, u, h1, h2, h3⟩
  · exact .inl ⟨h1, h2⟩
  · exact .inr ⟨g, c, u, h1, Nat.le_trans hb h2, h3⟩
/-- slices.Sort's two contracts, at the fence that asks nothing. -/
theorem sortsA (m : Nat) : AnyZI.SortsIn Tryd.prog Tryd.sortedA_ren Fence.wide m :=
  ⟨fun blk off cap ss W hH hblk hsz => callsIn_wide.2 (AnyM.slices_Sort_int Tryd.sortA blk off cap ss W hH hblk hsz),
   fun p cap W => callsIn_wide.2 (AnyM.slices_Sort_int_none Tryd.sortA p cap W)⟩
/-- maps.Keys: a function over a new block that holds the map. -/
theorem keys_call (mb : Option Nat) (W : World) : Calls Tryd.prog 35 #[.map mb] W fun e w' => e = .returned (.func (.func 44) #[] #[.pointer (some ⟨W.heap.size, 0, none⟩)]) ∧ w' = W.alloc (.cells #[.map mb] 39) :=
  (callsIn_wide (n := 5)).1 (AnyZI.keys_in Tryd.keysA Fence.wide 5 trivial rfl mb W)
/-- slices.Sorted of that: a new slice with the keys, ascending. -/
theorem sorted_call {H : Type} (b nn : Nat) (D0 : DataW H) (R : Value → Option (DataW H × List MemPlace)) (w : World) (hown : w.ownsMap Tryd.prog 3 R b nn D0) (hmax : Maps.size D0 ≤ 4000) :
    Calls Tryd.prog 34 #[.func (.func 44) #[] #[.pointer (some ⟨w.heap.size, 0, none⟩)]] (w.alloc (.cells #[.map (some b)] 39)) fun e w' => ∃ (v : Value) (ss : List Int), e = .returned v ∧ ss.Perm (intKeys D0) ∧
      w'.ownsRow w.heap.size 3 1 v ss.length ((ss.mergeSort (fun x y => decide (x ≤ y))).map (Value.int .i64)) ∧ w.grownBy w' none := by
  have hbl := hown.lt
  have hseq : SeqGives Fence.wide 2 Tryd.prog 44 #[.pointer (some ⟨w.heap.size, 0, none⟩)] encZ (fun ss => ss.Perm (intKeys D0)) (Maps.size D0) (w.alloc (.cells #[.map (some b)] 39)) :=
    AnyZI.keys_gives (ρ := Tryd.keysA_ren) { Tryd.keysA with } Fence.wide _ trivial rfl (by omega) w.heap.size b nn D0 _ (by simp) (by simp) (by
      obtain ⟨es, clock, hb, Ft, hs, hD⟩ := hown
      exact ⟨es, clock, (Below.heap_alloc _ _ b hbl).trans hb, Ft, hs, hD⟩)
  have cS := AnyZI.sorted_in Tryd.sortedA Fence.wide 5 trivial trivial trivial trivial rfl (by omega) (sortsA _) (enters_of Tryd.func43 (by kernel_rfl) rfl) 44 #[.pointer (some ⟨w.heap.size, 0, none⟩)] trivial (enters_of Tryd.func44 (by kernel_rfl) rfl) _ _ (by unfold maxLen; omega) (by omega) _ hseq
  refine ((callsIn_wide (n := 5)).1 cS).mono ?_
  rintro e w' ⟨v, ss, rfl, hS, hrow, _, hb⟩
  have g2 : (w.alloc (.cells #[.map (some b)] 39)).grownBy w' none := ⟨hb.os, hb.tape, hb.output, hb.size, fun k hk _ => hb.block k hk⟩
  exact ⟨v, ss, rfl, hS, own_monoS hrow (by simp), grownBy_trans (World.grownBy_alloc w _ none) g2⟩

/-! A list of rows, no two in one block. -/
def Dist (vals : List Value) : Prop := ∀ (i j : Nat) (u v : Value), i < j → vals[i]? = some u → vals[j]? = some v → u.ownBlock ≠ v.ownBlock
theorem Dist.more {vals : List Value} {u : Value} (h : Dist vals) (hu : ∀ (i : Nat) (x : Value), vals[i]? = some x → x.ownBlock ≠ u.ownBlock) : Dist (vals ++ [u]) := fun i j x y hij hx hy => by
  by_cases e : j < vals.length
  · rw [List.getElem?_append_left e] at hy
    rw [List.getElem?_append_left (by omega)] at hx
    exact h i j x y hij hx hy
  · have hj : j < (vals ++ [u]).length := (List.getElem?_eq_some_iff.1 hy).1
    simp at hj
    obtain rfl : j = vals.length := by omega
    rw [List.getElem?_append_right (Nat.le_refl _), Nat.sub_self] at hy
    have hy' : y = u := by simpa using hy.symm
    subst hy'
    rw [List.getElem?_append_left hij] at hx
    exact hu i x hx
def ListD (w : World) (base N : Nat) (v : Value) (rs : List (List Nat)) : Prop :=
  ∃ vals, w.ownsRow base 29 1 v rs.length vals ∧ (∀ i, i < rs.length → ∃ u, vals[i]? = some u ∧ RowV w base N u (rs.getD i [])) ∧ Dist vals
theorem ListD.list {w : World} {base N : Nat} {v : Value} {rs : List (List Nat)} (h : ListD w base N v rs) : ListAt w base N v rs := by
  obtain ⟨vals, h1, h2, _⟩ := h
  exact ⟨vals, h1, h2⟩
theorem ListD.nilL (w : World) (base N : Nat) : ListD w base N (.slice none 0 0) [] := ⟨[], World.ownsRow_nil _ _ _ _, fun i hi => absurd hi (by simp), fun i j u v _ h => by simp at h⟩
theorem ListD.kept {w w' : World} {base N : Nat} {v : Value} {rs : List (List Nat)} (h : ListD w base N v rs) (hg : w.grownBy w' none) : ListD w' base N v rs := by
  obtain ⟨vals, h1, h2, h3⟩ := h
  refine ⟨vals, own_keptM h1 hg, fun i hi => ?_, h3⟩
  obtain ⟨u, h4, h5⟩ := h2 i hi
  exact ⟨u, h4, h5.kept hg⟩
theorem ListD.below {w w' : World} {base N S : Nat} {v : Value} {rs : List (List Nat)} (h : ListD w base N v rs) (hb : S < base) (hg : w.grownBy w' (some S)) : ListD w' base N v rs := by
  obtain ⟨vals, h1, h2, h3⟩ := h
  refine ⟨vals, own_below h1 hb hg, fun i hi => ?_, h3⟩
  obtain ⟨u, h4, h5⟩ := h2 i hi
  exact ⟨u, h4, h5.below hb hg⟩
theorem ListD.more {w w' : World} {base N : Nat} {v v' u : Value} {rs : List (List Nat)} {vals : List Value} {r : List Nat} (h1 : w.ownsRow base 29 1 v rs.length vals) (h2 : ∀ i, i < rs.length → ∃ u, vals[i]? = some u ∧ RowV w base N u (rs.getD i [])) (h3 : Dist vals) (hu : RowV w base N u r)
    (hn : ∀ (i : Nat) (x : Value), vals[i]? = some x → x.ownBlock ≠ u.ownBlock) (ho : w'.ownsRow base 29 1 v' (rs.length + 1) (vals ++ [u])) (hg : w.grownBy w' v.ownBlock) : ListD w' base N v' (rs ++ [r]) := by
  have hl := h1.1
  have hl' : vals.length = rs.length := by omega
  have ne : 3 ≠ 29 := by decide
  refine ⟨vals ++ [u], by rw [List.length_append]; exact ho, fun i hi => ?_, h3.more hn⟩
  simp at hi
  by_cases e : i < rs.length
  · obtain ⟨x, h3, h4⟩ := h2 i e
    refine ⟨x, by rw [List.getElem?_append_left (by omega)]; exact h3, ?_⟩
    rw [getD_old e]
    exact h4.beside h1 ne hg
  · obtain rfl : i = rs.length := by omega
    refine ⟨u, by rw [List.getElem?_append_right (by omega), hl', Nat.sub_self]; rfl, ?_⟩
    rw [getD_new]
    exact hu.beside h1 ne hg
/-- A row that is newer than the list has a block that no row of the list has. -/
theorem dist_new {w : World} {base N B n c : Nat} {rs : List (List Nat)} {vals : List Value} (hl : vals.length = rs.length) (h2 : ∀ i, i < rs.length → ∃ u, vals[i]? = some u ∧ RowV w base N u (rs.getD i [])) (hB : w.heap.size ≤ B) :
    ∀ (i : Nat) (x : Value), vals[i]? = some x → x.ownBlock ≠ (Value.slice (some ⟨B, 0, none⟩) n c).ownBlock := fun i x hx e => by
  have hi := (List.getElem?_eq_some_iff.1 hx).1
  obtain ⟨u, h3, h4⟩ := h2 i (by omega)
  rw [hx] at h3
  cases h3
  obtain ⟨_, g, c', rfl, ho⟩ := h4
  have := (World.ownsRow.lt ho g rfl).2
  simp [Value.ownBlock] at e
  omega
theorem ListD.mono {w : World} {base b2 N : Nat} {v : Value} {rs : List (List Nat)} (h : ListD w base N v rs) (hb : b2 ≤ base) : ListD w b2 N v rs := by
  obtain ⟨vals, h1, h2, h3⟩ := h
  refine ⟨vals, own_monoS h1 hb, fun i hi => ?_, h3⟩
  obtain ⟨u, h4, h5, g, c, h6, h7⟩ := h2 i hi
  exact ⟨u, h4, h5, g, c, h6, own_monoS h7 hb⟩
theorem take_next {rs : List (List Nat)} {k : Nat} (h : k < rs.length) : rs.take (k + 1) = rs.take k ++ [rs.getD k []] := by
  rw [List.take_add_one, List.getElem?_eq_getElem h, List.getD_eq_getElem?_getD, List.getElem?_eq_getElem h]
  rfl

/-- What is left: rows that the call made, no two in one block. -/
def RowsDPost (N : Nat) (rs : List (List Nat)) (w : World) (e : Ending) (w' : World) : Prop :=
  ∃ v, e = .returned v ∧ ListD w' w.heap.size N v rs ∧ w.grownBy w' none

def RsRel (N : Nat) (rs : List (List Nat)) (w : World) (v i : Value) (wr : World) : Prop :=
  ∃ k : Nat, k ≤ rs.length ∧ i = .int .i64 k ∧ ListD wr w.heap.size N v (rs.take k) ∧ w.grownBy wr none
theorem infoRowsS : (Tryd.prog.info? 29).map (fun i => (i.zero, i.size, i.bytes)) = some (some (.slice none 0 0), 1, 24) := by kernel_rfl

set_option maxRecDepth 100000 in
set_option maxHeartbeats 4000000 in
theorem rowsOf_any {H : Type} (N : Nat) (hN : 1 ≤ N ∧ N ≤ 4) (b nn : Nat) (D0 : DataW H) (R : Value → Option (DataW H × List MemPlace)) (cs : List Nat) (w : World) (hown : w.ownsMap Tryd.prog 3 R b nn D0) (hk : KeysAre D0 cs) (hg : GoodC N cs) :
    Calls Tryd.prog 18 #[.int .i64 N, .map (some b)] w (RowsDPost N (rowsC N cs) w) := by
  obtain ⟨iR, hiR, hy0, hy1, hy2⟩ := info_parts infoRowsS
  have hM : (N + 1) ^ (N + 1) ≤ 3125 := pow_small hN.2 (by omega)
  have hsz : Maps.size D0 ≤ 3125 := by rw [hk.size]; exact Nat.le_trans (goodC_len hg) hM
  have cK := keys_call (some b) w
  have cS := sorted_call b nn D0 R w hown (by omega)
  have hperm := keys_perm hown keyedI hk
  have hso : Hid (∀ ss : List Int, ss.Perm (intKeys D0) → ss.length = (srt ((N + 1) ^ (N + 1)) cs).length ∧ ss.mergeSort (fun x y => decide (x ≤ y)) = (srt ((N + 1) ^ (N + 1)) cs).map fun (c : Nat) => (c : Int)) := fun ss h => by
    have h1 := h.trans hperm.symm
    refine ⟨?_, srt_sorted hg.nodup hg.lt h1⟩
    rw [h1.length_eq, List.length_map, srt_len hg.nodup hg.lt]
  have hall : Hid (∀ c ∈ srt ((N + 1) ^ (N + 1)) cs, c < 3125) := fun c hc => by
    have := hg.lt c ((srt_mem hg.lt c).1 hc)
    omega
  have hrs : Hid (rowsC N cs = (srt ((N + 1) ^ (N + 1)) cs).map (rowC N)) := rfl
  have hlen : (srt ((N + 1) ^ (N + 1)) cs).length ≤ 3125 := by rw [srt_len hg.nodup hg.lt]; exact Nat.le_trans (goodC_len hg) hM
  rw [hrs.out]
  clear hown hk hg hperm hsz hrs hM
  generalize srt ((N + 1) ^ (N + 1)) cs = ns at *
  go_enter Tryd.func18, Tryd.ntmps18
  go_wp2_with (first
    | (go_at_call 35; refine cK.mono ?_; rintro e w' ⟨rfl, rfl⟩)
    | (go_at_call 34; refine cS.mono ?_; rintro e w2 ⟨v2, ss, rfl, hS, hrow, g2⟩; obtain ⟨hsl, hse⟩ := hso.out ss hS; rw [hse, hsl] at hrow; obtain ⟨av, cv, rfl, hlv, hov⟩ := ownI_shape (zs := ns.map fun (c : Nat) => (c : Int)) hrow; rw [List.length_map]; clear hrow hlv hse hso hS cS cK))
  have G2 := Lib.hid g2
  have hs2 := g2.size
  clear g2
  have hA := hov.at (by rw [List.length_map]; unfold maxLen; omega)
  have HA := Lib.hid hA
  clear hov hA
  go_loopw [5, 12] (fun v i wr => RsRel N (ns.map (rowC N)) w2 v i wr) (fun _ i _ => ns.length - (RowKit.intOf i).toNat)
  case atStart => exact ⟨0, by omega, rfl, ListD.nilL _ _ _, grownBy_refl _ _⟩
  case round =>
    obtain ⟨k, hk, rfl, hL, hgr⟩ := hrel
    rw [List.length_map] at hk
    by_cases hlt : k < ns.length
    · have hks : k < (ns.map fun (c : Nat) => (c : Int)).length := by rw [List.length_map]; exact hlt
      rcases (HA.out.grown hgr).2 with h0 | ⟨bx, ox, rfl, hbx, hcx⟩
      · rw [h0] at hks; simp at hks
      have hc := hcx k hks
      have hcn : (ns.map fun (c : Nat) => (c : Int)).getD k 0 = ((ns.getD k 0 : Nat) : Int) := rI_at ns k
      rw [hcn] at hc
      have hcl : ns.getD k 0 < 3125 := by
        refine hall.out _ ?_
        rw [List.getD_eq_getElem?_getD, List.getElem?_eq_getElem hlt]
        exact List.getElem_mem hlt
      have hrow : Hid ((ns.map (rowC N)).getD k [] = rowC N (ns.getD k 0)) := by
        unfold Hid
        rw [List.getD_eq_getElem?_getD, List.getElem?_map, List.getD_eq_getElem?_getD, List.getElem?_eq_getElem hlt]
        rfl
      have htk : Hid ((ns.map (rowC N)).take (k + 1) = (ns.map (rowC N)).take k ++ [rowC N (ns.getD k 0)]) := by
        unfold Hid
        rw [take_next (by rw [List.length_map]; exact hlt), hrow.out]
      have hlk : ((ns.map (rowC N)).take k).length = k := by rw [List.length_take, List.length_map]; omega
      have cr := fun w => rowOf_any N (ns.getD k 0) hN (by omega) w
      have i0' : (0 : Int) ≤ (k : Int) := by omega
      have i1' : (k : Int) < (ns.length : Int) := by omega
      obtain ⟨vals, l1, l2, l3⟩ := hL
      have hsz0 := hgr.size
      clear hcx hbx hcn hks hrow
      generalize ns.getD k 0 = c at *
      generalize (ns.map (rowC N)).take k = pre at *
      have Hl2 := Lib.hid l2
      have Hl3 := Lib.hid l3
      have Hl1 := Lib.hid l1
      have Hgr := Lib.hid hgr
      have Hlk := Lib.hid hlk
      clear l1 l2 l3 hgr hlk
      go_wp2_with (first
        | (go_at_call 36; refine (cr _).mono ?_; rintro e w3 ⟨rfl, hrv, g3⟩; have l1 := own_keptM Hl1.out g3; have hs3 := g3.size; have Hrv := Lib.hid hrv; have Hg3 := Lib.hid g3; clear hrv g3 cr)
        | (at_builtin; refine wpList_append_own _ rfl _ _ 24 rfl w2.heap.size 29 iR (.slice none 0 0) 1 24 Tryd.underlying24 hiR hy0 hy1 hy2 rfl (by decide) _ pre.length vals rfl (World.ownsRow.alloc l1 _) ⟨w3.heap.size, 0, none⟩ 1 1 [.slice (some ⟨wr.heap.size, 0, none⟩) (N + 1) (N + 1)] rfl rfl ?a1 ?a2 ?a3 ?a4 ?a5 ?_))
      case a1 =>
        intro j u hj
        match j, hj with
        | 0, hj => simp at hj; subst hj; simp [Addr.add]
      case a2 => intro u hu; simp at hu; subst hu; rfl
      case a3 => have := Hlk.out; unfold maxLen; omega
      case a4 => have := Hlk.out; omega
      case a5 => simp; omega
      intro v' w4 ho4 gr4 _
      have hA4 := World.ownsRow.alloc l1 (.cells #[.slice (some ⟨wr.heap.size, 0, none⟩) (N + 1) (N + 1)] 29)
      have gA := World.grownBy_alloc w3 (.cells #[.slice (some ⟨wr.heap.size, 0, none⟩) (N + 1) (N + 1)] 29) none
      have hrv0 : RowV w3 w2.heap.size N (.slice (some ⟨wr.heap.size, 0, none⟩) (N + 1) (N + 1)) (rowC N c) := by
        obtain ⟨q1, g, c', q2, q3⟩ := Hrv.out
        exact ⟨q1, g, c', q2, own_monoS q3 hsz0⟩
      have HL : Hid (ListD w4 w2.heap.size N v' (pre ++ [rowC N c])) :=
        ListD.more (rs := pre) (vals := vals) hA4 (fun i hi => by obtain ⟨u, q1, q2⟩ := Hl2.out i hi; exact ⟨u, q1, q2.kept (grownBy_trans Hg3.out gA)⟩) Hl3.out (hrv0.kept gA)
          (dist_new (w := wr) (by have := Hl1.out.1; omega) Hl2.out (Nat.le_refl _)) ho4 gr4
      have HG : Hid (w2.grownBy w4 none) := grownBy_row (grownBy_trans (grownBy_trans Hgr.out Hg3.out) gA) hA4 (Nat.le_refl _) gr4
      clear hA4 gA hrv0 ho4 gr4 l1
      go_wp2_with fail
      go_roundw
      case rel => exact ⟨k + 1, by rw [List.length_map]; omega, by go_num, by rw [htk.out]; exact HL.out, HG.out⟩
      case measure => simp [RowKit.intOf]; omega
    · obtain rfl : k = ns.length := by omega
      have h := hL
      rw [List.take_of_length_le (by rw [List.length_map]; exact Nat.le_refl _)] at h
      have HL := Lib.hid h
      clear h
      clear hL
      go_wp2_with fail
      go_ret
      exact ⟨_, rfl, HL.out.mono hs2, grownBy_trans G2.out hgr⟩

end Go.Proofs.YtakjlfcgciglgaaDoor
