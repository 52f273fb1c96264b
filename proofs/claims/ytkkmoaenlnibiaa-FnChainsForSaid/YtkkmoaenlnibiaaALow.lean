/-
  impl.chainTree and impl.LeastAt: the least value over what impl.settings yields. No condition.
-/
import Derived.Test.YtkkmoaenlnibiaaAgn
namespace Go.Proofs.Ytkkmoaenlnibiaa
open Go.RowKit Go.Shelf
attribute [local go_sem] Oper.semAt_some

theorem chain_no (n : Int) (s : ByteArray) (w : World) (h : inB n 1 6 = false ∨ fOf (bl s) = none) :
    Calls Try.prog 47 #[.int .i64 n, .string s] w (TreeNo w) := by
  cases hi : inB n 1 6
  · have cs := steps_any n w
    rw [hi] at cs
    clear h
    go_enter Try.func47, Try.ntmps47
    go_wp2_with (go_at_call 54; refine cs.mono ?_; rintro e w' ⟨rfl, rfl⟩)
    go_ret2
    exact ⟨_, .inl rfl, rfl, grownBy_refl _ _⟩
  · have ho : fOf (bl s) = none := h.resolve_left (by rw [hi]; simp)
    have cs := steps_any n w
    rw [hi] at cs
    have ct := tree_no s w ho
    clear h ho
    go_enter Try.func47, Try.ntmps47
    go_wp2_with (go_at_call 54; refine cs.mono ?_; rintro e w' ⟨rfl, rfl⟩)
    refine ct.mono ?_
    rintro e w1 ⟨v, hv, rfl, g1⟩
    clear ct cs
    go_wp2_with fail
    go_ret2
    exact ⟨v, hv, rfl, g1⟩

theorem chain_yes {n : Int} (s : ByteArray) (w : World) {t : Tr} (hi : inB n 1 6 = true) (ho : fOf (bl s) = some t) :
    Calls Try.prog 47 #[.int .i64 n, .string s] w (TreeYes t w) := by
  have cs := steps_any n w
  rw [hi] at cs
  have ct := tree_yes s w ho
  clear ho
  go_enter Try.func47, Try.ntmps47
  go_wp2_with (go_at_call 54; refine cs.mono ?_; rintro e w' ⟨rfl, rfl⟩)
  refine ct.mono ?_
  rintro e w1 ⟨rfl, g1⟩
  clear ct cs
  go_wp2_with fail
  go_ret2
  exact ⟨rfl, g1⟩

theorem least_no (n : Int) (s : ByteArray) (w : World) (h : inB n 1 6 = false ∨ fOf (bl s) = none) :
    Calls Try.prog 16 #[.int .i64 n, .string s] w fun e w' => e = .returned (.int .i64 (-1)) ∧ w.grownBy w' none := by
  have cc := chain_no n s w h
  clear h
  go_enter Try.func16, Try.ntmps16
  go_wp2_with fail
  refine cc.mono ?_
  rintro e w1 ⟨v, hv, rfl, g1⟩
  clear cc
  rcases hv with rfl | ⟨T, p, rfl⟩
  all_goals
    go_wp2_with fail
    go_ret
    exact ⟨rfl, grownBy_trans g1 (World.grownBy_alloc _ _ none)⟩

/-- The least value over what has come. -/
def lowL (N : Nat) (t : Tr) (pre : List Nat) : Int := pre.foldl (fun s k => if s ≤ atK N t k then s else atK N t k) (N : Int)
theorem lowL_s1 {N : Nat} {t : Tr} {pre : List Nat} {x : Nat} (h : lowL N t pre ≤ atK N t x) : lowL N t (pre ++ [x]) = lowL N t pre := by
  unfold lowL at *
  rw [List.foldl_append]
  exact if_pos h
theorem lowL_s2 {N : Nat} {t : Tr} {pre : List Nat} {x : Nat} (h : ¬ lowL N t pre ≤ atK N t x) : lowL N t (pre ++ [x]) = atK N t x := by
  unfold lowL at *
  rw [List.foldl_append]
  exact if_neg h
theorem lowL_range (N : Nat) (t : Tr) : ∀ K, lowL N t (List.range K) = lowU N t K := by
  intro K
  induction K with
  | zero => rfl
  | succ K ih =>
    rw [List.range_succ]
    by_cases h : lowL N t (List.range K) ≤ atK N t K
    · rw [lowL_s1 h, ih]
      rw [ih] at h
      exact (lowU_s1 h).symm
    · rw [lowL_s2 h]
      rw [ih] at h
      exact (lowU_s2 h).symm

/-- What lies before impl.LeastAt's loop, from block b on. -/
def LoBlk (b N : Nat) (t : Tr) (v : Int) (W : World) : Prop :=
  BlkAt W b #[.iface (nodeT t) (nodeP t)] 52 ∧ BlkAt W (b + 1) #[.int .i64 v] 3 ∧ BlkAt W (b + 1 + 1) #[.int .i64 N] 3
theorem LoBlk.grown {b N : Nat} {t : Tr} {v : Int} {W W' : World} (h : LoBlk b N t v W) (hg : W.grownBy W' none) : LoBlk b N t v W' :=
  ⟨h.1.grown hg, h.2.1.grown hg, h.2.2.grown hg⟩
theorem LoBlk.put {b N : Nat} {t : Tr} {v : Int} {W : World} (h : LoBlk b N t v W) (u : Int) : LoBlk b N t u (W.setCell ⟨b + 1, 0, none⟩ (.int .i64 u)) :=
  ⟨h.1.other (by simp) _, h.2.1.set 0 _, h.2.2.other (by simp) _⟩
theorem LoBlk.own {β : Type} (b N : Nat) (t : Tr) (f : β → Int) : Own (fun s W => LoBlk b N t (f s) W) :=
  Own.and (blk_own _ _ _) (Own.and (blk_own _ _ fun s => #[.int .i64 (f s)]) (blk_own _ _ _))
theorem LoBlk.made (N : Nat) (t : Tr) (v : Int) (w : World) : LoBlk w.heap.size N t v (((w.alloc (.cells #[.iface (nodeT t) (nodeP t)] 52)).alloc (.cells #[.int .i64 v] 3)).alloc (.cells #[.int .i64 N] 3)) := by
  have h0 := BlkAt.new w #[.iface (nodeT t) (nodeP t)] 52
  generalize hw0 : w.alloc (.cells #[.iface (nodeT t) (nodeP t)] 52) = w0 at *
  have e0 : w0.heap.size = w.heap.size + 1 := by rw [← hw0]; simp
  have h1 := BlkAt.new w0 #[.int .i64 v] 3
  have g1 : w0.grownBy (w0.alloc (.cells #[.int .i64 v] 3)) none := World.grownBy_alloc _ _ none
  generalize hw1 : w0.alloc (.cells #[.int .i64 v] 3) = w1 at *
  have e1 : w1.heap.size = w.heap.size + 1 + 1 := by rw [← hw1]; simp [e0]
  have h2 := BlkAt.new w1 #[.int .i64 N] 3
  have g2 : w1.grownBy (w1.alloc (.cells #[.int .i64 N] 3)) none := World.grownBy_alloc _ _ none
  rw [e0] at h1
  rw [e1] at h2
  exact ⟨h0.grown (grownBy_trans g1 g2), h1.grown g2, h2⟩

set_option maxRecDepth 100000 in
set_option maxHeartbeats 4000000 in
theorem least_yes (N : Nat) (hN : 1 ≤ N ∧ N ≤ 6) (s : ByteArray) (w : World) {t : Tr} (ho : fOf (bl s) = some t) :
    Calls Try.prog 16 #[.int .i64 N, .string s] w fun e w' => e = .returned (.int .i64 (lowU N t (cub N))) ∧ w.grownBy w' none := by
  have cc := chain_yes s w (inB_t (n := N) (by omega)) ho
  clear ho
  refine (callsIn_wide (n := 5)).1 ?_
  refine callsIn_of_wp_marks Try.func16 rfl trivial ?_ rfl
  simp only [Try.ntmps16, List.size_toArray, List.length_cons, List.length_nil, Nat.reduceAdd, Nat.reduceSub, Array.replicate_succ, Array.replicate_zero, List.push_toArray, List.append_toArray, List.nil_append, List.cons_append]
  gi_wp2_with (refine ⟨trivial, ?_⟩; gi_at_call 47; refine (callsIn_wide.2 cc).mono ?_; rintro e w1 ⟨rfl, g1⟩)
  clear cc
  gi_wp2_with (refine ⟨trivial, ?_⟩; gi_at_call 48; refine (settings_any _ _ trivial rfl _ _).mono ?_; rintro e w' ⟨rfl, rfl⟩)
  have hM := LoBlk.made N t N w1
  have hg := grownBy_trans g1 (grownBy_trans (World.grownBy_alloc w1 (.cells #[.iface (nodeT t) (nodeP t)] 52) none) (grownBy_trans (World.grownBy_alloc _ (.cells #[.int .i64 N] 3) none) (World.grownBy_alloc _ (.cells #[.int .i64 N] 3) none)))
  obtain ⟨W0, hW0⟩ : ∃ W0, (((w1.alloc (.cells #[.iface (nodeT t) (nodeP t)] 52)).alloc (.cells #[.int .i64 N] 3)).alloc (.cells #[.int .i64 N] 3)) = W0 := ⟨_, rfl⟩
  rw [hW0] at hM hg ⊢
  have hsz : W0.heap.size = w1.heap.size + 1 + 1 + 1 := by rw [← hW0]; simp
  clear hW0
  have hw1 := g1.size
  have hB0 : Below w.heap.size w W0 := below_of hg
  clear hg
  refine wpIn_rangeFunc_ownH rfl (show 1 ≤ 5 from by decide) (gf := 61) (lb := #[.pointer (some ⟨w1.heap.size + 1 + 1, 0, none⟩)]) rfl trivial (enters_of Try.func61 (by kernel_rfl) rfl)
    (settings_stops Fence.wide (5 - 1) trivial rfl (by decide) (w1.heap.size + 1 + 1) N hN W0 (by omega) (hM.2.2.cell rfl)) kpC_t (kpC_b (by omega)) (Below.refl _ _) (fun _ => rfl)
    (fun pre W => LoBlk w1.heap.size N t (lowL N t pre) W ∧ Below w.heap.size w W)
    (fun _ _ _ => False)
    (OwnFrom.and (Own.from (LoBlk.own _ _ _ (fun pre => lowL N t pre)) _) (ownFrom_below (Nat.le_refl _) (by omega)))
    (fun _ _ _ _ _ hs _ _ => hs)
    ⟨hM, hB0⟩
    (fun x a' W => ∃ b, w1.heap.size + 1 + 1 < b ∧ BlkAt W b (set4 N x) 60 ∧ a' = { tmps := #[.int .i64 N, .string s, undef, undef, .int .i64 0, .pointer (some ⟨w1.heap.size, 0, none⟩), .bool true, .pointer (some ⟨w1.heap.size + 1, 0, none⟩), .pointer (some ⟨b, 0, none⟩), .tuple #[.iface (nodeT t) (nodeP t), .bool true], .int .i64 N, .string s, .tuple #[.iface (nodeT t) (nodeP t), .bool true], .iface (nodeT t) (nodeP t), .bool true, .bool true, .bool false, .int .i64 N, .int .i64 N, .func (.func 61) #[] #[.pointer (some ⟨w1.heap.size + 1 + 1, 0, none⟩)], .agg #[.int .i64 N, .int .i64 (tA N x), .int .i64 (tB N x), .int .i64 (tC N x)], undef, undef, undef, undef, undef, undef], defers := [] })
    (fun x a' => Own.from (fun s A B row hs hg hr => by obtain ⟨b, h1, h2, h3⟩ := hs; exact ⟨b, h1, blk_own (β := Unit) b _ (fun _ => set4 N x) () A B row h2 hg hr, h3⟩) _) ?assign ?body ?done ?stop
  case assign =>
    rintro l pre x W K ⟨hA, hB⟩ hK
    simp only [encK]
    gi_wp2
    exact hK _ _ ((KeepsOthers.alloc _ _).from _) (KpC.grown hA.2.2.lt (World.grownBy_alloc _ _ none)) ⟨hA.grown (World.grownBy_alloc _ _ none), hB.alloc hB.size _⟩ ⟨W.heap.size, hA.2.2.lt, BlkAt.new W _ _, rfl⟩
  case body =>
    rintro l pre x a' W hl ⟨r, hr⟩ ⟨hA, hB⟩ ⟨b, hb, hbx, rfl⟩ hlt
    have n0 : W.cell? ⟨w1.heap.size + 1, 0, none⟩ = some (.int .i64 (lowL N t pre)) := hA.2.1.cell rfl
    have t0 : W.cell? ⟨w1.heap.size, 0, none⟩ = some (.iface (nodeT t) (nodeP t)) := hA.1.cell rfl
    have x0 : W.cell? ⟨b, 0, none⟩ = some (.int .i64 N) := hbx.cell rfl
    have x1 : W.cell? ⟨b, 1, none⟩ = some (.int .i64 (tA N x)) := hbx.cell rfl
    have x2 : W.cell? ⟨b, 2, none⟩ = some (.int .i64 (tB N x)) := hbx.cell rfl
    have x3 : W.cell? ⟨b, 3, none⟩ = some (.int .i64 (tC N x)) := hbx.cell rfl
    have cv : ∀ w : World, Calls Try.prog 49 #[.agg #[.int .i64 N, .int .i64 (tA N x), .int .i64 (tB N x), .int .i64 (tC N x)], .iface (nodeT t) (nodeP t)] w fun e w' => e = .returned (.int .i64 (atK N t x)) ∧ w.grownBy w' none := vt_all (tri_ok hN x) t
    have hd : 1 ≤ 5 - 1 - 1 := by decide
    have hmx : Try.prog.follows .mixedOrders = true := by kernel_rfl
    by_cases hv : lowL N t pre ≤ atK N t x
    · gi_wp2
      gi_region_with_o (refine ⟨trivial, ?_⟩; gi_at_call 49; refine (CallsIn.inRound l (callsIn_wide.2 (cv _))).mono ?_; rintro e w' ⟨rfl, gx⟩; have n0' := cell_grown (w1 := W.drew) n0 gx; have z0' := (hA.grown (grownBy_trans (grownBy_drew (grownBy_refl W none)) gx)).2.1.frozen 0)
      all_goals
        have g := grownBy_trans (grownBy_drew (grownBy_refl W none)) gx
        have hA' := hA.grown g
        gi_wp2
        exact ⟨((KeepsOthers.of_grownBy g (by simp)).trans (KeepsOthers.setCell _ _ _)).from _, kpC_t (KpC.grown hA.2.2.lt g) (KpC.set _ (by simp) _), by rw [lowL_s1 hv]; exact hA'.put _, hB.trans (((below_of g).mono hB.size).setCell (by simp <;> omega) _)⟩
    · gi_wp2
      gi_region_with_o (refine ⟨trivial, ?_⟩; gi_at_call 49; refine (CallsIn.inRound l (callsIn_wide.2 (cv _))).mono ?_; rintro e w' ⟨rfl, gx⟩; have n0' := cell_grown (w1 := W.drew) n0 gx; have z0' := (hA.grown (grownBy_trans (grownBy_drew (grownBy_refl W none)) gx)).2.1.frozen 0)
      all_goals
        have g := grownBy_trans (grownBy_drew (grownBy_refl W none)) gx
        have hA' := hA.grown g
        gi_wp2
        exact ⟨((KeepsOthers.of_grownBy g (by simp)).trans (KeepsOthers.setCell _ _ _)).from _, kpC_t (KpC.grown hA.2.2.lt g) (KpC.set _ (by simp) _), by rw [lowL_s2 (by omega)]; exact hA'.put _, hB.trans (((below_of g).mono hB.size).setCell (by simp <;> omega) _)⟩
  case done =>
    rintro D ys W hD rfl ⟨hA, hB⟩ hK
    rw [lowL_range] at hA
    have n0 : W.cell? ⟨w1.heap.size + 1, 0, none⟩ = some (.int .i64 (lowU N t (cub N))) := hA.2.1.cell rfl
    gi_wp2
    refine ⟨by simp, .inl ⟨_, _, rfl, run_takeDeferred hK, ?_⟩⟩
    exact ⟨_, results_tmp rfl _ _ _, rfl, grown_of (hB.trans (belowK_b (w := w) (Nat.le_refl _) W D _ _ (by omega) hK rfl rfl))⟩
  case stop =>
    rintro D c pre W _ _ h _
    exact h.elim

theorem least_any (n : Int) (s : ByteArray) (w : World) :
    Calls Try.prog 16 #[.int .i64 n, .string s] w fun e w' => e = .returned (.int .i64 (leastI n (bl s))) ∧ w.grownBy w' none := by
  cases hi : inB n 1 6
  · rw [leastI_o hi]; exact least_no n s w (.inl hi)
  · cases ho : fOf (bl s) with
    | none => rw [leastI_n ho]; exact least_no n s w (.inr ho)
    | some t =>
      have hN := inB_of hi
      obtain ⟨N, rfl⟩ : ∃ N : Nat, n = N := ⟨n.toNat, by omega⟩
      rw [leastI_t ho hi]
      exact least_yes N (by omega) s w ho

end Go.Proofs.Ytkkmoaenlnibiaa
