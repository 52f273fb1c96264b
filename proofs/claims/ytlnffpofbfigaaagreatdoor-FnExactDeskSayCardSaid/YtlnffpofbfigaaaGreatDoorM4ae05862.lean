/-
  Joined out of the texts DTf, DTg, DTh, DTp, DTs, DTt, DTl, DTm, DTu, DUa, DYa: what each holds is told at its head.
-/
import Derived.Test.YtlnffpofbfigaaaGreatDoorM972f736b
import Derived.Test.YtlnffpofbfigaaaGreatDoorM10e1a973
import Derived.Test.YtlnffpofbfigaaaGreatDoorM9c42aede
import Derived.Test.YtlnffpofbfigaaaGreatDoorM61ee5d0c
import Derived.Maps.AppendAt
import Derived.Test.YtlnffpofbfigaaaGreatDoorMcf9295ec
import Derived.Test.YtlnffpofbfigaaaGreatDoorM7bea880a

/-
  A deed's text read: impl's ReadDeed.
-/
namespace Go.Proofs.YtlnffpofbfigaaaGreatDoor
open Go.RowKit

theorem resDdB {fn : Func} {p u : Tmp} (h : fn.results = #[.cell p 40, .tmp u]) (tmps : Array Value) {w : World} {B : Nat} {x y z b : Value} (hp : tmps.getD p undef = .pointer (some ⟨B, 0, none⟩)) (hu : tmps.getD u undef = b) (hB : CellsAt w B #[x, y, z] 40) :
    (results fn tmps).run Tryz.prog w = .ok (.tuple #[.agg #[x, y, z], b]) w := by
  rw [results_cell_tmp h, hp, hu]
  have := run_loadVar_row w B 40 40 #[x, y, z] (0, 0) _ hB Tryz.underlying40 rfl sizeDd
  simp only [asAddr, Sem.run_pure, Result.andThen_ok, this]
/-- What is answered where a text is read. -/
def rdV (l : List UInt8) : Value := match rdD l with | some a => .tuple #[ddV a, .bool true] | none => .tuple #[ddV nilDd, .bool false]
def RdDPost (l : List UInt8) (w : World) (e : Ending) (w' : World) : Prop := e = .returned (rdV l) ∧ w.grownBy w' none
theorem rdV_some {l : List UInt8} {a : Dd} (h : rdD l = some a) : rdV l = .tuple #[ddV a, .bool true] := by unfold rdV; rw [h]
theorem rdV_none {l : List UInt8} (h : rdD l = none) : rdV l = .tuple #[ddV nilDd, .bool false] := by unfold rdV; rw [h]

theorem ErAt.past {w w' : World} {b : Nat} (h : ErAt w) (hg : w.grownBy w' (some b)) (hs : 3 ≠ b) (hr : 4 ≠ b) : ErAt w' := by
  obtain ⟨⟨a, b, h1⟩, ⟨c, d, h2⟩⟩ := h
  exact ⟨⟨a, b, (World.cell?_of_block (w := w) (hg.block _ (World.block_lt_of_cell? w _ h1) (by simpa using hs))).trans h1⟩, ⟨c, d, (World.cell?_of_block (w := w) (hg.block _ (World.block_lt_of_cell? w _ h2) (by simpa using hr))).trans h2⟩⟩
theorem WdAt.past {w w' : World} {b : Nat} (h : WdAt w) (hg : w.grownBy w' (some b)) (hb : 0 ≠ b) : WdAt w' :=
  ⟨Nat.lt_of_lt_of_le h.1 hg.size, fun i hi => (World.cell?_of_block (w := w) (hg.block _ h.1 (by simpa using hb))).trans (h.2 i hi)⟩
theorem ErAt.lt {w : World} (h : ErAt w) : 3 < w.heap.size ∧ 4 < w.heap.size := by
  obtain ⟨⟨a, b, h1⟩, ⟨c, d, h2⟩⟩ := h
  exact ⟨World.block_lt_of_cell? w _ h1, World.block_lt_of_cell? w _ h2⟩

/-- What lies where while a text is read: the answer's box, the deed's box. -/
def RdS (w W : World) (b : Nat) (u v x : Value) : Prop := CellsAt W w.heap.size #[.int .i64 0, .int .i64 0, .string ⟨#[]⟩] 40 ∧ CellsAt W b #[u, v, x] 40 ∧ WdAt W ∧ ErAt W ∧ w.grownBy W none ∧ w.heap.size < b ∧ WdAt w ∧ ErAt w
theorem RdS.new {w w1 : World} (hT : WdAt w) (hE : ErAt w) (hg : (w.alloc (.cells #[.int .i64 0, .int .i64 0, .string ⟨#[]⟩] 40)).grownBy w1 none) (u v x : Value) : RdS w (w1.alloc (.cells #[u, v, x] 40)) w1.heap.size u v x :=
  have g := grownBy_trans (grownBy_trans (World.grownBy_alloc _ _ none) hg) (World.grownBy_alloc w1 (.cells #[u, v, x] 40) none)
  have h1 := (CellsAt.new w #[.int .i64 0, .int .i64 0, .string ⟨#[]⟩] 40).grown hg
  ⟨h1.grown (World.grownBy_alloc _ _ none), CellsAt.new _ _ _, hT.grown g, hE.grown g, g, h1.lt, hT, hE⟩
theorem RdS.grown {w W W' : World} {b : Nat} {u v x : Value} (h : RdS w W b u v x) (g : W.grownBy W' none) : RdS w W' b u v x :=
  ⟨h.1.grown g, h.2.1.grown g, h.2.2.1.grown g, h.2.2.2.1.grown g, grownBy_trans h.2.2.2.2.1 g, h.2.2.2.2.2⟩
theorem RdS.set {w W : World} {b : Nat} {u v x : Value} (h : RdS w W b u v x) (y z : Value) : RdS w ((W.setCell ⟨b, 1, none⟩ y).setCell ⟨b, 2, none⟩ z) b u y z := by
  obtain ⟨h1, h2, h3, h4, h5, h6, h7, h8⟩ := h
  have l1 := h7.1
  have l2 := h8.lt
  have g1 := grownBy_set W b 1 y
  have g2 := grownBy_set (W.setCell ⟨b, 1, none⟩ y) b 2 z
  exact ⟨(h1.kept g1 (by simp; omega)).kept g2 (by simp; omega), (h2.set 1 y).set 2 z, (h3.past g1 (by omega)).past g2 (by omega), (h4.past g1 (by omega) (by omega)).past g2 (by omega) (by omega), grownBy_put (grownBy_put h5 (by omega) 1 y) (by omega) 2 z, h6, h7, h8⟩
theorem RdS.facts {w W : World} {b : Nat} {u v x : Value} (h : RdS w W b u v x) : ((W.cell? ⟨b, 0, none⟩ = some u ∧ W.cell? ⟨b, 1, none⟩ = some v ∧ W.cell? ⟨b, 2, none⟩ = some x) ∧ W.frozen? ⟨b, 0, none⟩ = false ∧ W.frozen? ⟨b, 1, none⟩ = false ∧ W.frozen? ⟨b, 2, none⟩ = false) ∧ (W.cell? ⟨w.heap.size, 0, none⟩ = some (.int .i64 0) ∧ W.cell? ⟨w.heap.size, 1, none⟩ = some (.int .i64 0) ∧ W.cell? ⟨w.heap.size, 2, none⟩ = some (.string ⟨#[]⟩)) ∧ W.frozen? ⟨w.heap.size, 0, none⟩ = false ∧ W.frozen? ⟨w.heap.size, 1, none⟩ = false ∧ W.frozen? ⟨w.heap.size, 2, none⟩ = false := ⟨set_facts h.2.1, set_facts h.1⟩
theorem RdS.fin {w W : World} {b : Nat} {u v x : Value} (h : RdS w W b u v x) (p q r : Value) : CellsAt (((W.setCell ⟨w.heap.size, 0, none⟩ p).setCell ⟨w.heap.size, 1, none⟩ q).setCell ⟨w.heap.size, 2, none⟩ r) w.heap.size #[p, q, r] 40 ∧ w.grownBy (((W.setCell ⟨w.heap.size, 0, none⟩ p).setCell ⟨w.heap.size, 1, none⟩ q).setCell ⟨w.heap.size, 2, none⟩ r) none :=
  ⟨h.1.put3 _ _ _, grownBy_put (grownBy_put (grownBy_put h.2.2.2.2.1 (Nat.le_refl _) 0 p) (Nat.le_refl _) 1 q) (Nat.le_refl _) 2 r⟩

set_option maxRecDepth 8000 in
set_option maxHeartbeats 4000000 in
theorem ird_nil (w : World) (hT : WdAt w) (hE : ErAt w) :
    Calls Tryz.prog 44 #[.string ⟨#[]⟩] w (RdDPost [] w) := by
  have cc := cut_any [] 32
  have ek : kindI (Lib.cut [] [32]).1 = -1 := by decide +kernel
  have hw := rdV_none (wrote_no (s := []) (.inl rfl))
  unfold RdDPost
  rw [hw]
  unfold CutD at cc
  unfold ddV nilDd
  have HT := Lib.hid hT
  have HE := Lib.hid hE
  clear hT hw hE
  go_enter Tryz.func44, Tryz.ntmps44
  go_wp2_with (first | (go_at_call 43; refine (cc _ (by decide)).mono ?_; rintro e w1 ⟨rfl, hg⟩; have hT1 := HT.out.grown (grownBy_trans (World.grownBy_alloc _ _ none) hg); have S0 := Lib.hid (RdS.new HT.out HE.out hg (.int .i64 (-1)) (.int .i64 0) (.string (bs (Lib.cut [] [32]).2.1))); obtain ⟨⟨⟨x0, x1, x2⟩, y0, y1, y2⟩, ⟨z0, z1, z2⟩, v0, v1, v2⟩ := S0.out.facts; clear hg) | (go_at_call 92; refine (kind_any _ _ hT1).mono ?_; rw [ek]; rintro e w2 ⟨rfl, rfl⟩))
  have E := S0.out.fin (.int .i64 0) (.int .i64 0) (.string ⟨#[]⟩)
  exact bodyPost_ret (resDdB rfl _ rfl rfl E.1) rfl ⟨rfl, E.2⟩

set_option maxRecDepth 8000 in
set_option maxHeartbeats 4000000 in
/-- Another word than a chain's. -/
theorem ird_word (l : List UInt8) (K : Int) (T B : List UInt8) (f : Bool) (w : World) (hT : WdAt w) (hE : ErAt w) (h0 : l ≠ []) (ht : (Lib.cut l [32]) = (T, B, f)) (hk : kindI T = K) (hK : K ≠ 0) (hl : l.length ≤ L48) :
    Calls Tryz.prog 44 #[.string (bs l)] w (RdDPost l w) := by
  have cc := cut_any l 32
  have hw : wroteA l = (K, 0, B) := by unfold wroteA; rw [ht, hk]; exact if_neg hK
  have he := empty_bs h0
  have hK0 : (K == 0) = false := beq_false_of_ne hK
  unfold CutD at cc
  rw [ht] at cc
  unfold RdDPost
  have HT := Lib.hid hT
  have HE := Lib.hid hE
  have HL := Lib.hid hl
  have HK := Lib.hid hk
  have ci := fun w hT => itx_any (K, 0, B) w hT
  unfold TxPost ddV at ci
  clear hT hE hl hk hK ht
  by_cases hx : txD (K, 0, B) = l
  · have hr := rdV_some (wrote_yes h0 (by rw [hw]; exact hx))
    rw [hw] at hr
    rw [hr]
    rw [hx] at ci
    unfold ddV
    clear hr hw hx h0
    go_enter Tryz.func44, Tryz.ntmps44
    go_wp2_with (first | (go_at_call 43; refine (cc _ HL.out).mono ?_; rintro e w1 ⟨rfl, hg⟩; have hT1 := HT.out.grown (grownBy_trans (World.grownBy_alloc _ _ none) hg); have S0 := Lib.hid (RdS.new HT.out HE.out hg (.int .i64 K) (.int .i64 0) (.string (bs B))); obtain ⟨⟨⟨x0, x1, x2⟩, y0, y1, y2⟩, ⟨z0, z1, z2⟩, v0, v1, v2⟩ := S0.out.facts; clear hg) | (go_at_call 92; refine (kind_any _ _ hT1).mono ?_; rw [HK.out]; rintro e w2 ⟨rfl, rfl⟩) | (go_at_call 15; refine (ci _ S0.out.2.2.1).mono ?_; rintro e w2 ⟨rfl, hg⟩; have S1 := Lib.hid (S0.out.grown hg); obtain ⟨⟨⟨p0, p1, p2⟩, q0, q1, q2⟩, ⟨r0, r1, r2⟩, s0, s1, s2⟩ := S1.out.facts; clear hg))
    have E := S1.out.fin (.int .i64 K) (.int .i64 0) (.string (bs B))
    exact bodyPost_ret (resDdB rfl _ rfl rfl E.1) rfl ⟨rfl, E.2⟩
  · have hr := rdV_none (wrote_no (s := l) (.inr (by rw [hw]; exact hx)))
    rw [hr]
    have hne := bs_ne hx
    rw [← toL_bs (txD (K, 0, B))] at hne
    generalize txD (K, 0, B) = X at *
    unfold ddV nilDd
    clear hr hw hx h0
    go_enter Tryz.func44, Tryz.ntmps44
    go_wp2_with (first | (go_at_call 43; refine (cc _ HL.out).mono ?_; rintro e w1 ⟨rfl, hg⟩; have hT1 := HT.out.grown (grownBy_trans (World.grownBy_alloc _ _ none) hg); have S0 := Lib.hid (RdS.new HT.out HE.out hg (.int .i64 K) (.int .i64 0) (.string (bs B))); obtain ⟨⟨⟨x0, x1, x2⟩, y0, y1, y2⟩, ⟨z0, z1, z2⟩, v0, v1, v2⟩ := S0.out.facts; clear hg) | (go_at_call 92; refine (kind_any _ _ hT1).mono ?_; rw [HK.out]; rintro e w2 ⟨rfl, rfl⟩) | (go_at_call 15; refine (ci _ S0.out.2.2.1).mono ?_; rintro e w2 ⟨rfl, hg⟩; have S1 := Lib.hid (S0.out.grown hg); obtain ⟨⟨⟨p0, p1, p2⟩, q0, q1, q2⟩, ⟨r0, r1, r2⟩, s0, s1, s2⟩ := S1.out.facts; clear hg))
    have E := S1.out.fin (.int .i64 0) (.int .i64 0) (.string ⟨#[]⟩)
    exact bodyPost_ret (resDdB rfl _ rfl rfl E.1) rfl ⟨rfl, E.2⟩

end Go.Proofs.YtlnffpofbfigaaaGreatDoor

/-
  A deed's text read: impl's ReadDeed where the word is a chain's; and all.
-/
namespace Go.Proofs.YtlnffpofbfigaaaGreatDoor
open Go.RowKit

set_option maxRecDepth 8000 in
set_option maxHeartbeats 4000000 in
theorem ird_chain (l : List UInt8) (T B : List UInt8) (f : Bool) (w : World) (hT : WdAt w) (hE : ErAt w) (h0 : l ≠ []) (ht : (Lib.cut l [32]) = (T, B, f)) (hk : kindI T = 0) (hl : l.length ≤ L48) :
    Calls Tryz.prog 44 #[.string (bs l)] w (RdDPost l w) := by
  have cc := cut_any l 32
  have hw : wroteA l = (0, numI B, []) := by unfold wroteA; rw [ht, hk]; exact if_pos rfl
  have he := empty_bs h0
  have hB : B.length ≤ L48 := by have := (cut_len l 32).2; rw [ht] at this; exact Nat.le_trans this hl
  have cn := fun w hE => num_any B hB w hE
  unfold NumC at cn
  unfold CutD at cc
  rw [ht] at cc
  unfold RdDPost
  have HT := Lib.hid hT
  have HE := Lib.hid hE
  have HL := Lib.hid hl
  have HK := Lib.hid hk
  have ci := fun w hT => itx_any (0, numI B, []) w hT
  unfold TxPost ddV at ci
  rw [show bs ([] : List UInt8) = ⟨#[]⟩ from rfl] at ci
  clear hT hE hl hk ht hB
  by_cases hx : txD (0, numI B, []) = l
  · have hr := rdV_some (wrote_yes h0 (by rw [hw]; exact hx))
    rw [hw] at hr
    rw [hr]
    rw [hx] at ci
    unfold ddV
    clear hr hw hx h0
    generalize numI B = V at *
    go_enter Tryz.func44, Tryz.ntmps44
    go_wp2_with (first | (go_at_call 43; refine (cc _ HL.out).mono ?_; rintro e w1 ⟨rfl, hg⟩; have hT1 := HT.out.grown (grownBy_trans (World.grownBy_alloc _ _ none) hg); have S0 := Lib.hid (RdS.new HT.out HE.out hg (.int .i64 0) (.int .i64 0) (.string (bs B))); obtain ⟨⟨⟨x0, x1, x2⟩, y0, y1, y2⟩, ⟨z0, z1, z2⟩, v0, v1, v2⟩ := S0.out.facts; clear hg) | (go_at_call 92; refine (kind_any _ _ hT1).mono ?_; rw [HK.out]; rintro e w2 ⟨rfl, rfl⟩) | (go_at_call 93; refine (cn _ S0.out.2.2.2.1).mono ?_; rintro e w2 ⟨rfl, hg⟩; have S1 := Lib.hid (S0.out.grown hg); obtain ⟨⟨⟨p0, p1, p2⟩, q0, q1, q2⟩, ⟨r0, r1, r2⟩, s0, s1, s2⟩ := S1.out.facts; have S2 := Lib.hid (S1.out.set (.int .i64 V) (.string ⟨#[]⟩)); obtain ⟨⟨⟨a0, a1, a2⟩, b0, b1, b2⟩, ⟨c0, c1, c2⟩, d0, d1, d2⟩ := S2.out.facts; clear hg) | (go_at_call 15; refine (ci _ S2.out.2.2.1).mono ?_; rintro e w3 ⟨rfl, hg⟩; have S3 := Lib.hid (S2.out.grown hg); obtain ⟨⟨⟨e0, e1, e2⟩, f0, f1, f2⟩, ⟨g0, g1, g2⟩, i0, i1, i2⟩ := S3.out.facts; clear hg))
    have E := S3.out.fin (.int .i64 0) (.int .i64 V) (.string ⟨#[]⟩)
    exact bodyPost_ret (resDdB rfl _ rfl rfl E.1) rfl ⟨rfl, E.2⟩
  · have hr := rdV_none (wrote_no (s := l) (.inr (by rw [hw]; exact hx)))
    rw [hr]
    have hne := bs_ne hx
    rw [← toL_bs (txD (0, numI B, []))] at hne
    generalize txD (0, numI B, []) = X at *
    unfold ddV nilDd
    clear hr hw hx h0
    generalize numI B = V at *
    go_enter Tryz.func44, Tryz.ntmps44
    go_wp2_with (first | (go_at_call 43; refine (cc _ HL.out).mono ?_; rintro e w1 ⟨rfl, hg⟩; have hT1 := HT.out.grown (grownBy_trans (World.grownBy_alloc _ _ none) hg); have S0 := Lib.hid (RdS.new HT.out HE.out hg (.int .i64 0) (.int .i64 0) (.string (bs B))); obtain ⟨⟨⟨x0, x1, x2⟩, y0, y1, y2⟩, ⟨z0, z1, z2⟩, v0, v1, v2⟩ := S0.out.facts; clear hg) | (go_at_call 92; refine (kind_any _ _ hT1).mono ?_; rw [HK.out]; rintro e w2 ⟨rfl, rfl⟩) | (go_at_call 93; refine (cn _ S0.out.2.2.2.1).mono ?_; rintro e w2 ⟨rfl, hg⟩; have S1 := Lib.hid (S0.out.grown hg); obtain ⟨⟨⟨p0, p1, p2⟩, q0, q1, q2⟩, ⟨r0, r1, r2⟩, s0, s1, s2⟩ := S1.out.facts; have S2 := Lib.hid (S1.out.set (.int .i64 V) (.string ⟨#[]⟩)); obtain ⟨⟨⟨a0, a1, a2⟩, b0, b1, b2⟩, ⟨c0, c1, c2⟩, d0, d1, d2⟩ := S2.out.facts; clear hg) | (go_at_call 15; refine (ci _ S2.out.2.2.1).mono ?_; rintro e w3 ⟨rfl, hg⟩; have S3 := Lib.hid (S2.out.grown hg); obtain ⟨⟨⟨e0, e1, e2⟩, f0, f1, f2⟩, ⟨g0, g1, g2⟩, i0, i1, i2⟩ := S3.out.facts; clear hg))
    have E := S3.out.fin (.int .i64 0) (.int .i64 0) (.string ⟨#[]⟩)
    exact bodyPost_ret (resDdB rfl _ rfl rfl E.1) rfl ⟨rfl, E.2⟩

theorem ird_any (l : List UInt8) (w : World) (hT : WdAt w) (hE : ErAt w) (hl : l.length ≤ L48) :
    Calls Tryz.prog 44 #[.string (bs l)] w (RdDPost l w) := by
  by_cases h0 : l = []
  · subst h0; exact ird_nil w hT hE
  · by_cases hk : kindI (Lib.cut l [32]).1 = 0
    · exact ird_chain l _ _ _ w hT hE h0 rfl hk hl
    · exact ird_word l _ _ _ _ w hT hE h0 rfl rfl hk hl

end Go.Proofs.YtlnffpofbfigaaaGreatDoor

/-
  The walk of FnDeedText.
-/
namespace Go.Proofs.YtlnffpofbfigaaaGreatDoor
open Go.RowKit

theorem tx_len (a : Dd) : (txD a).length ≤ 66 := by
  by_cases h : txD a = []
  · rw [h]; simp
  · have hh := told_of h
    generalize txD a = s at *
    cases hh with
    | chain k h => simp [chainW]
    | say t hf => have := isF_len hf; simp [sayW]; omega
    | times t hf => have := isF_len hf; simp [timesW']; omega
    | ifs t hf => have := isF_len hf; simp [ifW]; omega
    | nots => decide
    | basic => decide
    | back => decide
theorem stx_v (K N : Int) (T : List UInt8) (S : ByteArray) (h : bs (txD (K, N, T)) = S) (w : World) : Calls Tryz.prog 90 #[.agg #[.int .i64 K, .int .i64 N, .string (bs T)]] w fun e w' => e = .returned (.string S) ∧ w.grownBy w' none := by rw [← h]; exact stx_any (K, N, T) w
theorem ird_v (l : List UInt8) (v : Value) (h : rdV l = v) (w : World) (hT : WdAt w) (hE : ErAt w) (hl : l.length ≤ L48) : Calls Tryz.prog 44 #[.string (bs l)] w fun e w' => e = .returned v ∧ w.grownBy w' none := by rw [← h]; exact ird_any l w hT hE hl

end Go.Proofs.YtlnffpofbfigaaaGreatDoor

/-
  Journals as texts: the model's.
-/
namespace Go.Proofs.YtlnffpofbfigaaaGreatDoor
open Go.RowKit

end Go.Proofs.YtlnffpofbfigaaaGreatDoor

/-
  The draw of a journal's deeds.
-/
namespace Go.Proofs.YtlnffpofbfigaaaGreatDoor
open Go.RowKit

end Go.Proofs.YtlnffpofbfigaaaGreatDoor

/-
  The draw of FnJournalText's deeds; the laws' sameDeeds at two rows of the same deeds.
-/
namespace Go.Proofs.YtlnffpofbfigaaaGreatDoor
open Go.RowKit

end Go.Proofs.YtlnffpofbfigaaaGreatDoor

/-
  A deed's text read, as the model reads it.
-/
namespace Go.Proofs.YtlnffpofbfigaaaGreatDoor
open Go.RowKit

theorem sct_any (l : List UInt8) (hl : l.length ≤ 2097152) (w : World) : Calls Tryz.prog 73 #[.string (bs l), .int .u8 32] w (ScPost 32 l w) := scut_any 32 l hl w
/-- What lies where while the model looks through its deeds. -/
def SrRel (l : List UInt8) (xs : List Dd) (w : World) (g0 : Nat) (kv : Value) (wr : World) : Prop := ∃ k : Nat, k ≤ xs.length ∧ kv = .int .i64 k ∧ (∀ j, j < k → txD (xs.getD j nilDd) ≠ l) ∧ CellsAt wr w.heap.size #[.int .i64 0, .int .i64 0, .string ⟨#[]⟩] 40 ∧ DdsAt wr (some ⟨g0, 0, none⟩) xs ∧ w.grownBy wr none
theorem all_none {l : List UInt8} {xs : List Dd} (h : ∀ j, j < xs.length → txD (xs.getD j nilDd) ≠ l) : ∀ a ∈ xs, txD a ≠ l := by
  intro a ha
  obtain ⟨j, hj, rfl⟩ := List.mem_iff_getElem.1 ha
  have := h j hj
  rwa [List.getD_eq_getElem?_getD, List.getElem?_eq_getElem hj] at this
theorem row_cells {w : World} {g k : Nat} {xs : List Dd} {K N : Int} {T : List UInt8} (h : DdsAt w (some ⟨g, 0, none⟩) xs) (hk : k < xs.length) (hq : xs.getD k nilDd = (K, N, T)) : w.cell? ⟨g, k * 3, none⟩ = some (.int .i64 K) ∧ w.cell? ⟨g, k * 3 + 1, none⟩ = some (.int .i64 N) ∧ w.cell? ⟨g, k * 3 + 2, none⟩ = some (.string (bs T)) := by
  rcases h.2 with h0 | ⟨b, off, ha, _, hc⟩
  · rw [h0] at hk; simp at hk
  · cases ha
    have := hc k hk
    rw [hq, Nat.zero_add] at this
    exact this
theorem cand_few {l : List UInt8} (h : (cutL 32 l).length ≠ 2) : candL l = cand3 := by
  unfold candL candT
  split
  · rename_i a b e; rw [e] at h; exact absurd rfl h
  · simp
theorem start_few {l : List UInt8} {w w1 : World} (hg : (w.alloc (.cells #[.int .i64 0, .int .i64 0, .string ⟨#[]⟩] 40)).grownBy w1 none) : SrRel l cand3 w w1.heap.size (.int .i64 0) (w1.alloc (.cells #[.int .i64 2, .int .i64 0, .string ⟨#[]⟩, .int .i64 5, .int .i64 0, .string ⟨#[]⟩, .int .i64 6, .int .i64 0, .string ⟨#[]⟩] 40)) :=
  have ga := World.grownBy_alloc w1 (.cells #[.int .i64 2, .int .i64 0, .string ⟨#[]⟩, .int .i64 5, .int .i64 0, .string ⟨#[]⟩, .int .i64 6, .int .i64 0, .string ⟨#[]⟩] 40) none
  ⟨0, by omega, rfl, fun j hj => absurd hj (by omega), ((CellsAt.new w _ _).grown hg).grown ga, Own3.at (base := w1.heap.size) (cap := 3) (World.ownsRow_lit (e := 40) (size := 3) w1 _ 3 (Nat.le_refl _) (by unfold maxLen; omega) rfl), grownBy_trans (grownBy_trans (World.grownBy_alloc _ _ none) hg) ga⟩

set_option maxRecDepth 8000 in
set_option maxHeartbeats 4000000 in
theorem srd_few (l : List UInt8) (hl : l.length ≤ 2097152) (h0 : l ≠ []) (hc : (cutL 32 l).length ≠ 2) (w : World) :
    Calls Tryz.prog 45 #[.string (bs l)] w (RdDPost l w) := by
  have cs := sct_any l hl
  have he := empty_bs h0
  unfold ScPost at cs
  have hc2 : (((cutL 32 l).length : Int) == 2) = false := beq_false_of_ne (by omega)
  have hcd := cand_few hc
  unfold RdDPost
  go_enter Tryz.func45, Tryz.ntmps45
  go_wp2_with (first | (go_at_call 73; refine (cs _).mono ?_; rintro e w1 ⟨a, cap, rfl, hS, hg⟩; have S0 := Lib.hid (start_few (l := l) hg)))
  obtain ⟨g0, hg0⟩ : ∃ g0, w1.heap.size = g0 := ⟨_, rfl⟩
  rw [hg0] at S0 ⊢
  generalize w1.alloc _ = W at *
  clear cs hc2 hg hS hg0 hc
  have SS := S0
  go_loopw [6] (fun kv wr => SrRel l cand3 w g0 kv wr) (fun kv _ => (cand3).length - (intOf kv).toNat)
  case atStart => exact SS.out
  case round =>
    obtain ⟨k, hk, rfl, hall, hB, hX, hgr⟩ := hrel
    have HB := Lib.hid hB
    have HX := Lib.hid hX
    have HG := Lib.hid hgr
    have HA := Lib.hid hall
    have hk3 : k ≤ 3 := hk
    by_cases hlt3 : k < 3
    · have hlt : k < (cand3).length := hlt3
      clear hX hB hgr hall
      generalize hq : (cand3).getD k nilDd = q at *
      obtain ⟨K, N, T⟩ := q
      obtain ⟨x0, x1, x2⟩ := row_cells HX.out hlt hq
      by_cases hx : txD (K, N, T) = l
      · have c2 := stx_v K N T _ (by rw [hx])
        have hr := rdV_some (cand_yes h0 hx)
        unfold ddV at hr
        go_wp2_with (first | (go_at_call 90; refine (c2 _).mono ?_; rintro e w3 ⟨rfl, g3⟩; have H3 := Lib.hid (HB.out.grown g3); obtain ⟨⟨y0, y1, y2⟩, z0, z1, z2⟩ := set_facts H3.out; obtain ⟨u0, u1, u2⟩ := row_cells (HX.out.grown g3) hlt hq))
        exact bodyPost_ret (v := .tuple #[.agg #[.int .i64 K, .int .i64 N, .string (bs T)], .bool true]) (resDdB rfl _ rfl rfl (H3.out.put3 _ _ _)) rfl ⟨by first | rfl | exact (congrArg Ending.returned hr).symm, put3_grown _ (grownBy_trans HG.out g3) (Nat.le_refl _) _ _ _⟩
      · have c2 := stx_v K N T _ rfl
        have hne := bs_ne hx
        rw [← toL_bs (txD (K, N, T))] at hne
        generalize bs (txD (K, N, T)) = X at *
        go_wp2_with (first | (go_at_call 90; refine (c2 _).mono ?_; rintro e w3 ⟨rfl, g3⟩))
        go_roundw
        case rel => exact ⟨k + 1, by omega, by go_num, fun j hj => by
          by_cases e : j = k
          · rw [e, hq]; exact hx
          · exact HA.out j (by omega), HB.out.grown g3, HX.out.grown g3, grownBy_trans HG.out g3⟩
        case measure => simp [intOf]; omega
    · obtain rfl : k = 3 := by omega
      have hr := rdV_none (cand_no (s := l) (.inr (by rw [hcd]; exact all_none HA.out)))
      unfold ddV nilDd at hr
      obtain ⟨⟨y0, y1, y2⟩, z0, z1, z2⟩ := set_facts HB.out
      clear hX hB hgr hall
      go_wp2
      exact bodyPost_ret (v := .tuple #[.agg #[.int .i64 0, .int .i64 0, .string ⟨#[]⟩], .bool false]) (resDdB rfl _ rfl rfl (HB.out.put3 _ _ _)) rfl ⟨by first | rfl | exact (congrArg Ending.returned hr).symm, put3_grown _ HG.out (Nat.le_refl _) _ _ _⟩

theorem cand_many {l A T : List UInt8} (h : cutL 32 l = [A, T]) : candL l = cand3 ++ [(0, digI T, []), (1, 0, T), (3, 0, T), (4, 0, T)] := by
  unfold candL; rw [h]; rfl
theorem news_dd {W : World} {b : Nat} {L : List Dd} (h : CellsAt W b (ddC L).toArray 40) : ∀ j u, (ddC L)[j]? = some u → W.drew.cell? ((⟨b, 0, none⟩ : Addr).add j) = some u := by
  intro j u hu
  rw [add_none, Nat.zero_add]
  exact h.cell (by rw [List.getElem?_toArray]; exact hu)
theorem grD_row {a b c : World} {g : Nat} (h : a.grownBy b none) (hb : a.heap.size ≤ g) (k : b.grownBy c (some g)) : a.grownBy c none :=
  ⟨k.os.trans h.os, k.tape.trans h.tape, k.output.trans h.output, Nat.le_trans h.size k.size, fun i hi hne => (k.block i (Nat.lt_of_lt_of_le hi h.size) (by simp; omega)).trans (h.block i hi hne)⟩
theorem start_many {l : List UInt8} {xs ys : List Dd} {w W W2 w3 : World} {g0 g9 : Nat} {kv : Value} (h : SrRel l xs w g0 kv W) (hd : DdsAt w3 (some ⟨g9, 0, none⟩) ys) (hgt : w.heap.size < g0) (hg : W.grownBy W2 none) (k : W2.grownBy w3 (some g0)) : SrRel l ys w g9 (.int .i64 0) w3 := by
  obtain ⟨_, _, _, _, hB, _, hgr⟩ := h
  exact ⟨0, by omega, rfl, fun j hj => absurd hj (by omega), (hB.grown hg).kept k (by simp; omega), hd, grD_row (grownBy_trans hgr hg) (by omega) k⟩
theorem cut_parts {l A T : List UInt8} {p : UInt8} (h : cutL p l = [A, T]) : T.length ≤ l.length := by
  have := cutL_join p l
  rw [h] at this
  have hl := congrArg List.length this
  simp [joinL] at hl
  omega
set_option maxRecDepth 8000 in
set_option maxHeartbeats 4000000 in
theorem srd_many (l A T : List UInt8) (hl : l.length ≤ 2097152) (h0 : l ≠ []) (hc : cutL 32 l = [A, T]) (w : World) :
    Calls Tryz.prog 45 #[.string (bs l)] w (RdDPost l w) := by
  have cs := sct_any l hl
  have he := empty_bs h0
  unfold ScPost at cs
  rw [hc] at cs
  have hcd := cand_many hc
  have cg := sdig_any T (Nat.le_trans (cut_parts hc) hl)
  obtain ⟨i0, hi, hz0, hz1, hz2⟩ := info_parts infoDd
  clear hc
  unfold RdDPost
  go_enter Tryz.func45, Tryz.ntmps45
  go_wp2_with fail
  refine (cs _).mono ?_
  rintro e w1 ⟨a, cap, rfl, hS, hg⟩
  have S0 := Lib.hid (start_few (l := l) hg)
  obtain ⟨g, rfl, hcx⟩ := hS.grown (World.grownBy_alloc w1 (.cells #[.int .i64 2, .int .i64 0, .string ⟨#[]⟩, .int .i64 5, .int .i64 0, .string ⟨#[]⟩, .int .i64 6, .int .i64 0, .string ⟨#[]⟩] 40) none)
  have t1 := hcx 1 (by simp)
  change _ = some (Value.string (bs T)) at t1
  have O0 := Lib.hid (show Own3 (w1.alloc (.cells #[.int .i64 2, .int .i64 0, .string ⟨#[]⟩, .int .i64 5, .int .i64 0, .string ⟨#[]⟩, .int .i64 6, .int .i64 0, .string ⟨#[]⟩] 40)) w1.heap.size (some ⟨w1.heap.size, 0, none⟩) 3 cand3 from World.ownsRow_lit (e := 40) (size := 3) w1 _ 3 (Nat.le_refl _) (by unfold maxLen; omega) rfl)
  have hgt : Hid (w.heap.size < w1.heap.size) := Lib.hid (by have := hg.size; simp at this; omega)
  clear hS hcx hg
  go_wp2_with fail
  obtain ⟨g0, hg0⟩ : ∃ g0, w1.heap.size = g0 := ⟨_, rfl⟩
  rw [hg0] at S0 O0 hgt ⊢
  have hlt0 : Hid (g0 < (w1.alloc (.cells #[.int .i64 2, .int .i64 0, .string ⟨#[]⟩, .int .i64 5, .int .i64 0, .string ⟨#[]⟩, .int .i64 6, .int .i64 0, .string ⟨#[]⟩] 40)).heap.size) := Lib.hid (by rw [← hg0]; simp)
  generalize w1.alloc _ = W at *
  clear cs hg0
  generalize digI T = V at *
  have HN := CellsAt.new W (ddC [(0, V, []), (1, 0, T), (3, 0, T), (4, 0, T)]).toArray 40
  have gx : W.grownBy (W.alloc (.cells (ddC [(0, V, []), (1, 0, T), (3, 0, T), (4, 0, T)]).toArray 40)).drew none := grownBy_drew (World.grownBy_alloc W _ none)
  obtain ⟨v', w3, hrun, hO, hgr, _⟩ := run_append_own (P := Tryz.prog) (w := (W.alloc (.cells (ddC [(0, V, []), (1, 0, T), (3, 0, T), (4, 0, T)]).toArray 40)).drew) g0 24 24 40 i0 (.agg #[.int .i64 0, .int .i64 0, .string ⟨#[]⟩]) 3 32 Tryz.underlying24 hi hz0 hz1 hz2 rfl (by decide) _ _ _ (O0.out.kept gx) ⟨W.heap.size, 0, none⟩ 4 4 (ddC [(0, V, []), (1, 0, T), (3, 0, T), (4, 0, T)]) rfl (news_dd HN) (ddC_one _) (by unfold maxLen; decide) (by decide) (by have := hlt0.out; have := gx.size; omega)
  rw [← ddC_app] at hO
  obtain ⟨a', cap', rfl, _, hO⟩ := own3_shape hO
  obtain ⟨g9, rfl⟩ := hO.way.resolve_left (by simp [cand3])
  have S9 := Lib.hid (start_many S0.out hO.at hgt.out (grownBy_trans gx (grownBy_refl _ _)) hgr)
  have hU2 := Lib.hid (show (W.alloc (.cells (ddC [(0, V, []), (1, 0, T), (3, 0, T), (4, 0, T)]).toArray 40)).drew.cell? ⟨g, 1, none⟩ = some (.string (bs T)) from (World.cell?_of_block (w := W) (gx.block _ (World.block_lt_of_cell? W _ t1) (by simp))).trans t1)
  have hgne : g ≠ g0 := fun e => by
    subst e
    have ho := World.ownsRow.cellAt (O0.out) 1 (by decide)
    rw [t1] at ho
    simp [cand3, ddC] at ho
  have hU3 := Lib.hid (show w3.cell? ⟨g, 1, none⟩ = some (.string (bs T)) from (World.cell?_of_block (hgr.block _ (World.block_lt_of_cell? _ _ hU2.out) (by simpa [Value.ownBlock] using hgne))).trans hU2.out)
  clear hO hgr HN gx hlt0 hgt S0 O0 hgne
  change (Builtin.append_ #[24, 24] 24 #[.slice (some ⟨g0, 0, none⟩) 3 3, .slice (some ⟨W.heap.size, 0, none⟩) 4 4]).run Tryz.prog (W.alloc (.cells #[.int .i64 0, .int .i64 V, .string ⟨#[]⟩, .int .i64 1, .int .i64 0, .string (bs T), .int .i64 3, .int .i64 0, .string (bs T), .int .i64 4, .int .i64 0, .string (bs T)] 40)).drew = .ok (.slice (some ⟨g9, 0, none⟩) 7 cap') w3 at hrun
  go_region_held_law (fun w' : World => w'.cell? ⟨g, 1, none⟩ = some (.string (bs T))) (first | exact t1 | exact hU2.out | exact hU3.out) (first | (go_at_call 76; refine (cg _).mono ?_; rintro e w2 ⟨rfl, rfl⟩) | (refine step_append_run (by rfl) _ _ _ (by rfl) (.slice (some ⟨g0, 0, none⟩) 3 3) (.slice (some ⟨W.heap.size, 0, none⟩) 4 4) (by rfl) (by rfl) (.slice (some ⟨g9, 0, none⟩) 7 cap') w3 hrun ?_))
  go_wp2_with fail
  have SS := S9
  clear hrun hO cg t1 hU2 hU3 S9
  go_loopw [6] (fun kv wr => SrRel l (cand3 ++ [(0, V, []), (1, 0, T), (3, 0, T), (4, 0, T)]) w g9 kv wr) (fun kv _ => ((cand3 ++ [(0, V, []), (1, 0, T), (3, 0, T), (4, 0, T)])).length - (intOf kv).toNat)
  case atStart => exact SS.out
  case round =>
    obtain ⟨k, hk, rfl, hall, hB, hX, hgr⟩ := hrel
    have HB := Lib.hid hB
    have HX := Lib.hid hX
    have HG := Lib.hid hgr
    have HA := Lib.hid hall
    have hk3 : k ≤ 7 := hk
    by_cases hlt3 : k < 7
    · have hlt : k < ((cand3 ++ [(0, V, []), (1, 0, T), (3, 0, T), (4, 0, T)])).length := hlt3
      clear hX hB hgr hall
      generalize hq : ((cand3 ++ [(0, V, []), (1, 0, T), (3, 0, T), (4, 0, T)])).getD k nilDd = q at *
      obtain ⟨K, N, T⟩ := q
      obtain ⟨x0, x1, x2⟩ := row_cells HX.out hlt hq
      by_cases hx : txD (K, N, T) = l
      · have c2 := stx_v K N T _ (by rw [hx])
        have hr := rdV_some (cand_yes h0 hx)
        unfold ddV at hr
        go_wp2_with (first | (go_at_call 90; refine (c2 _).mono ?_; rintro e w3 ⟨rfl, g3⟩; have H3 := Lib.hid (HB.out.grown g3); obtain ⟨⟨y0, y1, y2⟩, z0, z1, z2⟩ := set_facts H3.out; obtain ⟨u0, u1, u2⟩ := row_cells (HX.out.grown g3) hlt hq))
        exact bodyPost_ret (v := .tuple #[.agg #[.int .i64 K, .int .i64 N, .string (bs T)], .bool true]) (resDdB rfl _ rfl rfl (H3.out.put3 _ _ _)) rfl ⟨by first | rfl | exact (congrArg Ending.returned hr).symm, put3_grown _ (grownBy_trans HG.out g3) (Nat.le_refl _) _ _ _⟩
      · have c2 := stx_v K N T _ rfl
        have hne := bs_ne hx
        rw [← toL_bs (txD (K, N, T))] at hne
        generalize bs (txD (K, N, T)) = X at *
        go_wp2_with (first | (go_at_call 90; refine (c2 _).mono ?_; rintro e w3 ⟨rfl, g3⟩))
        go_roundw
        case rel => exact ⟨k + 1, by omega, by go_num, fun j hj => by
          by_cases e : j = k
          · rw [e, hq]; exact hx
          · exact HA.out j (by omega), HB.out.grown g3, HX.out.grown g3, grownBy_trans HG.out g3⟩
        case measure => simp [intOf]; omega
    · obtain rfl : k = 7 := by omega
      have hr := rdV_none (cand_no (s := l) (.inr (by rw [hcd]; exact all_none HA.out)))
      unfold ddV nilDd at hr
      obtain ⟨⟨y0, y1, y2⟩, z0, z1, z2⟩ := set_facts HB.out
      clear hX hB hgr hall
      go_wp2
      exact bodyPost_ret (v := .tuple #[.agg #[.int .i64 0, .int .i64 0, .string ⟨#[]⟩], .bool false]) (resDdB rfl _ rfl rfl (HB.out.put3 _ _ _)) rfl ⟨by first | rfl | exact (congrArg Ending.returned hr).symm, put3_grown _ HG.out (Nat.le_refl _) _ _ _⟩

set_option maxRecDepth 8000 in
set_option maxHeartbeats 4000000 in
theorem srd_nil (w : World) : Calls Tryz.prog 45 #[.string ⟨#[]⟩] w (RdDPost [] w) := by
  have cs := sct_any [] (by decide)
  unfold ScPost at cs
  have hr := rdV_none (cand_no (s := []) (.inl rfl))
  unfold ddV nilDd at hr
  unfold RdDPost
  rw [hr]
  go_enter Tryz.func45, Tryz.ntmps45
  go_wp2_with fail
  refine (cs _).mono ?_
  rintro e w1 ⟨a, cap, rfl, hS, hg⟩
  have S0 := Lib.hid (start_few (l := []) hg)
  clear hS cs
  have e1 : (cutL 32 []).length = 1 := rfl
  rw [e1]
  go_wp2_with fail
  obtain ⟨g0, hg0⟩ : ∃ g0, w1.heap.size = g0 := ⟨_, rfl⟩
  rw [hg0] at S0 ⊢
  generalize w1.alloc _ = W at *
  clear hg hg0
  go_loopw [6] (fun kv wr => (∃ k : Nat, k ≤ 3 ∧ kv = .int .i64 k) ∧ wr = W) (fun kv _ => 3 - (intOf kv).toNat)
  case atStart => exact ⟨⟨0, by omega, rfl⟩, rfl⟩
  case round =>
    obtain ⟨⟨k, hk, rfl⟩, rfl⟩ := hrel
    by_cases hlt : k < 3
    · go_wp2
      go_roundw
      case rel => exact ⟨⟨k + 1, by omega, by go_num⟩, by first | rfl | trivial⟩
      case measure => simp [intOf]; omega
    · obtain rfl : k = 3 := by omega
      have HB := Lib.hid S0.out.choose_spec.2.2.2.1
      have HG := Lib.hid S0.out.choose_spec.2.2.2.2.2
      obtain ⟨⟨y0, y1, y2⟩, z0, z1, z2⟩ := set_facts HB.out
      go_wp2
      exact bodyPost_ret (v := .tuple #[.agg #[.int .i64 0, .int .i64 0, .string ⟨#[]⟩], .bool false]) (resDdB rfl _ rfl rfl (HB.out.put3 _ _ _)) rfl ⟨rfl, put3_grown _ HG.out (Nat.le_refl _) _ _ _⟩
theorem srd_any (l : List UInt8) (hl : l.length ≤ 2097152) (w : World) : Calls Tryz.prog 45 #[.string (bs l)] w (RdDPost l w) := by
  by_cases h0 : l = []
  · subst h0; exact srd_nil w
  · by_cases hc : (cutL 32 l).length = 2
    · match hq : cutL 32 l, hc with
      | [A, T], _ => exact srd_many l A T hl h0 hq w
    · exact srd_few l hl h0 hc w

end Go.Proofs.YtlnffpofbfigaaaGreatDoor

/-
  The walk of FnExactReadDeed.
-/
namespace Go.Proofs.YtlnffpofbfigaaaGreatDoor
open Go.RowKit

theorem srd_v (l : List UInt8) (v : Value) (h : rdV l = v) (w : World) (hl : l.length ≤ 2097152) : Calls Tryz.prog 45 #[.string (bs l)] w fun e w' => e = .returned v ∧ w.grownBy w' none := by rw [← h]; exact srd_any l hl w
end Go.Proofs.YtlnffpofbfigaaaGreatDoor

/-
  Journals read: the landed code's.
-/
namespace Go.Proofs.YtlnffpofbfigaaaGreatDoor
open Go.RowKit

theorem cut_v (l : List UInt8) (c : UInt8) (T B : List UInt8) (f : Bool) (h : Lib.cut l [c] = (T, B, f)) (w : World) (hl : l.length ≤ L48) :
    Calls Tryz.prog 43 #[.string (bs l), .string ⟨#[c]⟩] w fun e w' => e = .returned (.tuple #[.string (bs T), .string (bs B), .bool f]) ∧ w.grownBy w' none := by
  have hh := cut_any l c w hl
  unfold CutD at hh
  rw [h] at hh
  exact hh
def RjR (l : List UInt8) (w : World) (m : List Dd) (a : Option Addr) (cap n : Nat) (rs : List UInt8) (wr : World) : Prop :=
  n + rs.length = l.length ∧ rdJ l = (m ++ (rdJ rs).1, n + (rdJ rs).2) ∧ m.length ≤ n ∧ Own3 wr w.heap.size a cap m ∧ w.grownBy wr none
def RjPost (l : List UInt8) (w : World) (e : Ending) (w' : World) : Prop :=
  ∃ (a : Option Addr) (cap : Nat), e = .returned (.tuple #[.slice a (rdJ l).1.length cap, .int .i64 ((rdJ l).2 : Nat)]) ∧ Own3 w' w.heap.size a cap (rdJ l).1 ∧ w.grownBy w' none
theorem RjR.grown {l rs : List UInt8} {w wr w' : World} {m : List Dd} {a : Option Addr} {cap n : Nat} (h : RjR l w m a cap n rs wr) (g : wr.grownBy w' none) : RjR l w m a cap n rs w' :=
  ⟨h.1, h.2.1, h.2.2.1, h.2.2.2.1.kept g, grownBy_trans h.2.2.2.2 g⟩
theorem RjR.fin {l rs : List UInt8} {w wr : World} {m : List Dd} {a : Option Addr} {cap n : Nat} (h : RjR l w m a cap n rs wr) (k : rdJ rs = ([], 0)) : RjPost l w (.returned (.tuple #[.slice a m.length cap, .int .i64 (n : Nat)])) wr := by
  obtain ⟨_, h2, _, h4, h5⟩ := h
  rw [k] at h2
  simp only [List.append_nil, Nat.add_zero] at h2
  unfold RjPost
  rw [h2]
  exact ⟨a, cap, rfl, h4, h5⟩
theorem RjR.next {l t r : List UInt8} {w wr : World} {m : List Dd} {a a' : Option Addr} {cap cap' n : Nat} {D : Dd} {w' : World} (h : RjR l w m a cap n (t ++ 10 :: r) wr) (ht : ∀ d ∈ t, d ≠ (10 : UInt8)) (k : rdD t = some D) (ho : Own3 w' w.heap.size a' cap' (m ++ [D])) (hg : w.grownBy w' none) : RjR l w (m ++ [D]) a' cap' (n + (t.length + 1)) r w' := by
  obtain ⟨h1, h2, h3, _, _⟩ := h
  rw [j_yes r ht k] at h2
  refine ⟨by simp at h1; omega, ?_, by simp; omega, ho, hg⟩
  rw [h2, List.append_assoc]
  simp only [List.singleton_append, Prod.mk.injEq, true_and]
  omega

end Go.Proofs.YtlnffpofbfigaaaGreatDoor

/-
  A line to a desk that is a deed: the landed code's DeskLine.
-/
namespace Go.Proofs.YtlnffpofbfigaaaGreatDoor
open Go.RowKit

def okT (b : Bool) : ByteArray := cond b ⟨#[111, 107]⟩ ⟨#[110, 111, 116]⟩
def LnPost (r : Dk × Bool) (w : World) (e : Ending) (w' : World) : Prop := ∃ a cap, e = .returned (.tuple #[dkV r.1 a cap, .string (okT r.2)]) ∧ OwnL w' w.heap.size a r.1.2 ∧ (a = none → cap = 0) ∧ w.grownBy w' none

set_option maxRecDepth 8000 in
set_option maxHeartbeats 2000000 in
theorem idl_deed (m : Int) (s : List UInt8) (xs : List Ld) (D : Dd) (t : List UInt8) (a : Option Addr) (cap : Nat) (w : World) (hq : rdD t = some D) (htl : t.length ≤ L48) (hDl : D.2.2.length ≤ 4000000) (h : LdsAt w a xs) (h0 : a = none → cap = 0) (hd : dkB ((m, s), xs) = true) (hT : WdAt w ∧ ErAt w) :
    Calls Tryz.prog 14 #[.agg #[.int .i64 m, .string (bs s), .slice a xs.length cap], .string (bs t)] w (LnPost (doR ((m, s), xs) D) w) := by
  have g2 : w.grownBy ((w.alloc (.cells #[.int .i64 m, .string (bs s), .slice a xs.length cap] 32)).alloc (.cells #[.int .i64 0, .string ⟨#[]⟩, .slice none 0 0] 32)) none := grownBy_trans (World.grownBy_alloc w _ none) (World.grownBy_alloc _ _ none)
  have hZ := Lib.hid (CellsAt.second w (.cells #[.int .i64 m, .string (bs s), .slice a xs.length cap] 32) #[.int .i64 0, .string ⟨#[]⟩, .slice none 0 0] 32)
  have hD := Lib.hid (CellsAt.first w (.cells #[.int .i64 0, .string ⟨#[]⟩, .slice none 0 0] 32) #[.int .i64 m, .string (bs s), .slice a xs.length cap] 32)
  have ck := idesk_any ((m, s), xs) a cap _ (h.grown g2)
  rw [hd] at ck
  unfold dkV at ck
  have cr := fun w hT hE => ird_v t _ (rdV_some hq) w hT hE htl
  unfold ddV at cr
  obtain ⟨⟨⟨⟨p2, u2⟩, ys2⟩, ok⟩, hR⟩ : ∃ R, R = doR ((m, s), xs) D := ⟨_, rfl⟩
  have cd : ∀ W, LdsAt W a xs → Calls Tryz.prog 52 #[.agg #[.int .i64 m, .string (bs s), .slice a xs.length cap], .agg #[.int .i64 D.1, .int .i64 D.2.1, .string (bs D.2.2)]] W fun e w' => ∃ a' cap', e = .returned (.tuple #[.agg #[.int .i64 p2, .string (bs u2), .slice a' ys2.length cap'], .bool ok]) ∧ OwnL w' W.heap.size a' ys2 ∧ (a' = none → cap' = 0) ∧ W.grownBy w' none := fun W hW => by
    have := ido_any ((m, s), xs) D a cap W hW h0 hDl
    rw [← hR] at this
    exact this
  rw [← hR]
  have HX := Lib.hid (h.grown g2)
  have HT := Lib.hid hT
  have G2 := Lib.hid g2
  generalize bs t = U at *
  clear h g2 hd hT hq htl hDl hR
  go_enter Tryz.func14, Tryz.ntmps14
  go_wp2_with fail
  generalize (w.alloc (.cells #[.int .i64 m, .string (bs s), .slice a xs.length cap] 32)).alloc (.cells #[.int .i64 0, .string ⟨#[]⟩, .slice none 0 0] 32) = W at *
  refine ck.mono ?_
  rintro e w1 ⟨rfl, hg1⟩
  have G1 := Lib.hid (grownBy_trans G2.out hg1)
  have g1W := Lib.hid hg1
  clear ck hg1
  go_wp2_with fail
  refine (cr _ (HT.out.1.grown G1.out) (HT.out.2.grown G1.out)).mono ?_
  rintro e w2 ⟨rfl, hg2⟩
  have gA := World.grownBy_alloc w2 (.cells #[.int .i64 D.1, .int .i64 D.2.1, .string (bs D.2.2)] 40) none
  have gW2 := Lib.hid (grownBy_trans g1W.out (grownBy_trans hg2 gA))
  obtain ⟨d0, d1, d2⟩ := (hD.out.grown gW2.out).three
  obtain ⟨e0, e1, e2⟩ := (CellsAt.new w2 #[.int .i64 D.1, .int .i64 D.2.1, .string (bs D.2.2)] 40).three
  clear cr hg2 gA
  go_wp2_with fail
  refine (cd _ (HX.out.grown gW2.out)).mono ?_
  rintro e w3 ⟨a3, c3, rfl, o3, z3, hg3⟩
  have gX := World.grownBy_alloc w3 (.cells #[.int .i64 p2, .string (bs u2), .slice a3 ys2.length c3] 32) none
  have gW3 := Lib.hid (grownBy_trans gW2.out (grownBy_trans hg3 gX))
  have G3 := Lib.hid (grownBy_trans G2.out gW3.out)
  have hZ3 := Lib.hid (hZ.out.grown gW3.out)
  obtain ⟨⟨y0, y1, y2⟩, v0, v1, v2⟩ := dk_facts hZ3.out
  obtain ⟨x0, x1, x2⟩ := (CellsAt.new w3 #[.int .i64 p2, .string (bs u2), .slice a3 ys2.length c3] 32).three
  have O3 := Lib.hid ((o3.kept gX).mono (base' := w.heap.size) (grownBy_trans G2.out gW2.out).size)
  have F := Lib.hid (hZ3.out.put3 (.int .i64 p2) (.string (bs u2)) (.slice a3 ys2.length c3))
  have P : Hid (LnPost (((p2, u2), ys2), ok) w (.returned (.tuple #[.agg #[.int .i64 p2, .string (bs u2), .slice a3 ys2.length c3], .string (okT ok)])) ((((w3.alloc (.cells #[.int .i64 p2, .string (bs u2), .slice a3 ys2.length c3] 32)).setCell ⟨w.heap.size + 1, 0, none⟩ (.int .i64 p2)).setCell ⟨w.heap.size + 1, 1, none⟩ (.string (bs u2))).setCell ⟨w.heap.size + 1, 2, none⟩ (.slice a3 ys2.length c3))) :=
    ⟨a3, c3, rfl, O3.out.put3 ⟨_, hZ3.out⟩ _ _ _, z3, put3_grown _ G3.out (by omega) _ _ _⟩
  clear hg3 gX cd e0 e1 e2 o3
  cases ok
  · go_wp2_with fail
    exact bodyPost_ret (v := .tuple #[.agg #[.int .i64 p2, .string (bs u2), .slice a3 ys2.length c3], .string (okT false)]) (resDkB (b := .string (okT false)) rfl _ rfl rfl F.out) rfl P.out
  · go_wp2_with fail
    exact bodyPost_ret (v := .tuple #[.agg #[.int .i64 p2, .string (bs u2), .slice a3 ys2.length c3], .string (okT true)]) (resDkB (b := .string (okT true)) rfl _ rfl rfl F.out) rfl P.out

end Go.Proofs.YtlnffpofbfigaaaGreatDoor

/-
  The draw of a line.
-/
namespace Go.Proofs.YtlnffpofbfigaaaGreatDoor
open Go.RowKit

theorem lit9s (k : Nat) (h : k < 9) : ∃ u : ByteArray, (#[.string ⟨#[115, 116, 101, 112, 115]⟩, .string ⟨#[116, 101, 120, 116]⟩, .string ⟨#[97, 108, 119, 97, 121, 115]⟩, .string ⟨#[108, 101, 97, 115, 116]⟩, .string ⟨#[97, 103, 97, 105, 110, 115, 116]⟩, .string ⟨#[99, 104, 97, 105, 110, 115]⟩, .string ⟨#[108, 101, 116, 116, 101, 114, 115]⟩, .string ⟨#[109, 111, 118, 101, 115]⟩, .string ⟨#[114, 111, 119]⟩] : Array Value)[k]? = some (.string u) ∧ u.size ≤ 10 := by
  match k, h with
  | 0, _ => exact ⟨_, rfl, by decide⟩
  | 1, _ => exact ⟨_, rfl, by decide⟩
  | 2, _ => exact ⟨_, rfl, by decide⟩
  | 3, _ => exact ⟨_, rfl, by decide⟩
  | 4, _ => exact ⟨_, rfl, by decide⟩
  | 5, _ => exact ⟨_, rfl, by decide⟩
  | 6, _ => exact ⟨_, rfl, by decide⟩
  | 7, _ => exact ⟨_, rfl, by decide⟩
  | 8, _ => exact ⟨_, rfl, by decide⟩
theorem lit13s (k : Nat) (h : k < 13) : ∃ u : ByteArray, (#[.string ⟨#[]⟩, .string ⟨#[99, 104, 97, 105, 110]⟩, .string ⟨#[99, 104, 97, 105, 110, 32, 120]⟩, .string ⟨#[99, 104, 97, 105, 110, 32, 49, 48]⟩, .string ⟨#[115, 97, 121]⟩, .string ⟨#[115, 97, 121, 32, 97, 62]⟩, .string ⟨#[97, 116, 32, 49, 32, 50]⟩, .string ⟨#[97, 116, 32, 49, 32, 50, 32, 120]⟩, .string ⟨#[97, 116, 32, 57, 32, 48, 32, 48]⟩, .string ⟨#[102, 114, 111, 109]⟩, .string ⟨#[102, 114, 111, 109, 32, 100]⟩, .string ⟨#[32, 116, 101, 120, 116]⟩, .string ⟨#[110, 111, 116, 32, 49]⟩] : Array Value)[k]? = some (.string u) ∧ u.size ≤ 10 := by
  match k, h with
  | 0, _ => exact ⟨_, rfl, by decide⟩
  | 1, _ => exact ⟨_, rfl, by decide⟩
  | 2, _ => exact ⟨_, rfl, by decide⟩
  | 3, _ => exact ⟨_, rfl, by decide⟩
  | 4, _ => exact ⟨_, rfl, by decide⟩
  | 5, _ => exact ⟨_, rfl, by decide⟩
  | 6, _ => exact ⟨_, rfl, by decide⟩
  | 7, _ => exact ⟨_, rfl, by decide⟩
  | 8, _ => exact ⟨_, rfl, by decide⟩
  | 9, _ => exact ⟨_, rfl, by decide⟩
  | 10, _ => exact ⟨_, rfl, by decide⟩
  | 11, _ => exact ⟨_, rfl, by decide⟩
  | 12, _ => exact ⟨_, rfl, by decide⟩
def LiPost (r P : Nat) (w : World) (e : Ending) (w' : World) : Prop := ∃ s : ByteArray, e = .returned (.string s) ∧ s.size ≤ 70 ∧ Rd w' r (P + 101) ∧ w.grownBy w' (some r)
theorem num6_any (k : Int) (w : World) (h0 : 0 ≤ k) (h1 : k < 7) : Calls Tryz.prog 62 #[.int .i64 k] w fun e w' => ∃ D : ByteArray, e = .returned (.string D) ∧ D.size = 1 ∧ w.grownBy w' none :=
  (num9_any k (inB_t (by omega)) w).mono fun e w' h => ⟨_, h.1, rfl, h.2⟩

set_option maxRecDepth 8000 in
set_option maxHeartbeats 4000000 in
theorem line_draw (w : World) (r P : Nat) (hr : Rd w r P) (hP : P ≤ 50000) :
    Calls Tryz.prog 59 #[.pointer (some ⟨r, 0, none⟩)] w (LiPost r P w) := by
  have hlt := hr.lt
  go_enter Tryz.func59, Tryz.ntmps59
  go_wp2_with fail
  refine (pick_any _ _ _ _ hr (by omega)).mono ?_
  rintro e w1 ⟨k, rfl, hk0, hk1, hr1, hg1⟩
  have hlt1 := hr1.lt
  clear hr hlt
  rcases (by omega : k = 0 ∨ k = 1 ∨ k = 2 ∨ k = 3 ∨ k = 4 ∨ k = 5 ∨ k = 6) with rfl | rfl | rfl | rfl | rfl | rfl | rfl
  ·
    go_wp2_with (go_at_call 41; (with_reducible refine (pick_any 9 _ r (P + 1) (by first | with_reducible exact hr1 | with_reducible exact hr1.alloc _) (by omega)).mono ?_); rintro e wb ⟨kp, rfl, hkp, hlp, hrp, hgp⟩; obtain ⟨kp, rfl⟩ := Int.eq_ofNat_of_zero_le hkp; obtain ⟨u, hC, hu⟩ := lit9s kp (by omega); have hltp : (kp : Int) < 9 := (by omega); have hmp := @cell_made wb _ 9 kp _ hC; (first | (have hx := cell_keptD hgp hlt1 hC) | skip))
    all_goals
      go_ret
      refine ⟨u, rfl, by omega, ?_, ?_⟩
      · first | exact hrp.mono (by omega) | exact (hrp.alloc _).mono (by omega)
      · first
        | exact grownBy_trans hg1 (grownBy_trans (World.grownBy_alloc _ _ _) hgp)
        | exact grownBy_trans hg1 (grownBy_trans hgp (World.grownBy_alloc _ _ _))
  ·
    go_wp2_with (go_at_call 41; (with_reducible refine (pick_any 9 _ r (P + 1) (by first | with_reducible exact hr1 | with_reducible exact hr1.alloc _) (by omega)).mono ?_); rintro e wb ⟨kp, rfl, hkp, hlp, hrp, hgp⟩; obtain ⟨kp, rfl⟩ := Int.eq_ofNat_of_zero_le hkp; obtain ⟨u, hC, hu⟩ := lit9s kp (by omega); have hltp : (kp : Int) < 9 := (by omega); have hmp := @cell_made wb _ 9 kp _ hC; (first | (have hx := cell_keptD hgp hlt1 hC) | skip))
    all_goals
      go_ret
      refine ⟨u, rfl, by omega, ?_, ?_⟩
      · first | exact hrp.mono (by omega) | exact (hrp.alloc _).mono (by omega)
      · first
        | exact grownBy_trans hg1 (grownBy_trans (World.grownBy_alloc _ _ _) hgp)
        | exact grownBy_trans hg1 (grownBy_trans hgp (World.grownBy_alloc _ _ _))
  ·
    go_wp2_with (go_at_call 41; (with_reducible refine (pick_any 13 _ r (P + 1) (by first | with_reducible exact hr1 | with_reducible exact hr1.alloc _) (by omega)).mono ?_); rintro e wb ⟨kp, rfl, hkp, hlp, hrp, hgp⟩; obtain ⟨kp, rfl⟩ := Int.eq_ofNat_of_zero_le hkp; obtain ⟨u, hC, hu⟩ := lit13s kp (by omega); have hltp : (kp : Int) < 13 := (by omega); have hmp := @cell_made wb _ 9 kp _ hC; (first | (have hx := cell_keptD hgp hlt1 hC) | skip))
    all_goals
      go_ret
      refine ⟨u, rfl, by omega, ?_, ?_⟩
      · first | exact hrp.mono (by omega) | exact (hrp.alloc _).mono (by omega)
      · first
        | exact grownBy_trans hg1 (grownBy_trans (World.grownBy_alloc _ _ _) hgp)
        | exact grownBy_trans hg1 (grownBy_trans hgp (World.grownBy_alloc _ _ _))
  · have cn := fun k w => num6_any k w
    have hrX := hr1
    have hgX := hg1
    clear hr1 hg1
    go_wp2_with (first | (go_at_call 41; (with_reducible refine (pick_any 7 _ r _ hrX (by omega)).mono ?_); rintro e wb ⟨kp, rfl, hkp, hlp, hrp, hgp⟩; replace hrX := hrp; replace hgX := grownBy_trans hgX hgp; clear hgp hrp) | (go_at_call 62; (with_reducible refine (cn _ _ (by omega) (by omega)).mono ?_); rintro e wb ⟨D, rfl, hD, gn⟩; replace hrX := hrX.grown gn; replace hgX := grownBy_trans hgX (grown_none gn); clear gn))
    all_goals
      go_ret
      refine ⟨_, rfl, ?_, hrX.mono (by omega), hgX⟩
      have e1 : (⟨#[97, 116, 32]⟩ : ByteArray).size = 3 := rfl
      have e2 : (⟨#[32]⟩ : ByteArray).size = 1 := rfl
      simp only [ByteArray.size_append]
      omega
  · go_wp2_with (first | (go_at_call 108; (with_reducible refine (formed_draw 9 _ r (P + 1) hr1 (by omega) (by omega) (by omega)).mono ?_); rintro e wb ⟨S, rfl, hS, hrp, hgp⟩; have hS2 : ¬ (9223372036854775807 < 5 + S.size) := (by omega)))
    go_ret
    refine ⟨_, rfl, ?_, hrp.mono (by omega), grownBy_trans hg1 hgp⟩
    simp only [ByteArray.size_append]
    change 5 + S.size ≤ 70
    omega
  iterate 2
    · go_wp2_with fail
      refine (deed_draw _ _ _ hr1 (by omega)).mono ?_
      rintro e w2 ⟨⟨K, N, X⟩, rfl, hD, hr2, hg2⟩
      have c2 := stx_v K N X _ rfl
      have hz := tx_len (K, N, X)
      go_wp2_with fail
      refine (c2 _).mono ?_
      rintro e w3 ⟨rfl, hg3⟩
      go_wp2_with fail
      go_ret
      exact ⟨_, rfl, by rw [bs_size]; omega, (hr2.grown hg3).mono (by omega), grownBy_trans hg1 (grownBy_trans hg2 (grown_none hg3))⟩

def DdlPost (w : World) (e : Ending) (w' : World) : Prop := ∃ (d : Dk) (a : Option Addr) (cap : Nat) (l : List UInt8), e = .returned (.tuple #[dkV d a cap, .string (bs l)]) ∧ LdsAt w' a d.2 ∧ (a = none → cap = 0) ∧ l.length ≤ 70 ∧ w.grownBy w' none

set_option maxRecDepth 8000 in
set_option maxHeartbeats 8000000 in
theorem DrawDeskLine_any (a : Option Addr) (len cap : Nat) (zs : List Int) (w : World) (h : IsRow .u8 w a len cap zs) :
    Calls Tryz.prog 20 #[.slice a len cap] w (DdlPost w) := by
  have g0 := World.grownBy_alloc w (.cells #[.int .i64 0, .string ⟨#[]⟩, .slice none 0 0] 32) none
  have hB := CellsAt.new w #[.int .i64 0, .string ⟨#[]⟩, .slice none 0 0] 32
  have ha := h.up g0
  have hR : (w.alloc (.cells #[.int .i64 0, .string ⟨#[]⟩, .slice none 0 0] 32)).heap.size = w.heap.size + 1 := by show (w.heap.push _).size = _; rw [Array.size_push]
  have HR := Lib.hid hR
  have co := open_draw a len cap zs _ ha
  unfold OpenPost at co
  rw [hR] at co
  have HB := Lib.hid hB
  have G0 := Lib.hid g0
  clear h hB g0 hR ha
  go_enter Tryz.func20, Tryz.ntmps20
  go_wp2_with fail
  refine co.mono ?_
  rintro e w1 ⟨rfl, hr1, hg1⟩
  have cd := desk_draw (fun w r P hr hP => deed_draw w r P hr hP) 12 w1 (w.heap.size + 1) 0 hr1 (by omega) (by omega) (by omega)
  have hl1 := hr1.lt
  clear co
  go_wp2_with fail
  refine cd.mono ?_
  rintro e w2 ⟨d, a, cap, rfl, ho, hr2, hg2⟩
  obtain ⟨⟨m, s⟩, xs⟩ := d
  have hgg := grownBy_own hg1 (by rw [HR.out]; exact hg2)
  have hl2 := hr2.lt
  have gX := World.grownBy_alloc w2 (.cells #[.int .i64 m, .string (bs s), .slice a xs.length cap] 32) none
  have HC := Lib.hid (CellsAt.new w2 #[.int .i64 m, .string (bs s), .slice a xs.length cap] 32)
  have HB2 := Lib.hid ((HB.out.grown hgg).grown gX)
  have GG := Lib.hid (grownBy_trans hgg gX)
  have hr3 := hr2.alloc (.cells #[.int .i64 m, .string (bs s), .slice a xs.length cap] 32)
  have ho3 := Lib.hid (ho.kept gX)
  clear ho hr2 hg2 hg1 hr1 hgg cd gX
  unfold dkV
  go_wp2_with fail
  generalize w2.alloc (.cells #[.int .i64 m, .string (bs s), .slice a xs.length cap] 32) = W at *
  generalize w2.heap.size = c at *
  obtain ⟨z0, z1, z2⟩ := HC.out.three
  obtain ⟨⟨d0, d1, d2⟩, f0, f1, f2⟩ := dk_facts HB2.out
  go_region_with (go_at_call 59; (with_reducible refine (line_draw _ (w.heap.size + 1) 700 hr3.drewn (by omega)).mono ?_); rintro e wa ⟨S, rfl, hS, hra, hga⟩; have h1 := Lib.hid (grownBy_undrew hga); have HBa := Lib.hid (HB2.out.kept h1.out (by simp)); obtain ⟨x0, x1, x2⟩ := (HC.out.kept h1.out (by simp; omega)).three; obtain ⟨⟨y0, y1, y2⟩, v0, v1, v2⟩ := dk_facts HBa.out; have HO := Lib.hid (ho3.out.past h1.out (by omega)); clear hga)
  all_goals go_wp2_with fail
  all_goals exact bodyPost_ret (v := .tuple #[.agg #[.int .i64 m, .string (bs s), .slice a xs.length cap], .string S]) (resDkB (b := .string S) rfl _ rfl rfl (HBa.out.put3 _ _ _)) rfl ⟨((m, s), xs), a, cap, bl S, rfl, (HO.out.past (put3_past _ w.heap.size (.int .i64 m) (.string (bs s)) (.slice a xs.length cap)) (by omega)).at, HO.out.bare, by rw [← bl_size]; exact hS, put3_grown _ (grownBy_trans G0.out (grownBy_own GG.out (by rw [HR.out]; exact h1.out))) (Nat.le_refl _) _ _ _⟩

end Go.Proofs.YtlnffpofbfigaaaGreatDoor
