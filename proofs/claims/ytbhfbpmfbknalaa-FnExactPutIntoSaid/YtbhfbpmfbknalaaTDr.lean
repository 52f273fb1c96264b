/-
  The draws of chapter 10.
-/
import Derived.Test.YtbhfbpmfbknalaaTSn2
import Derived.Test.YtbhfbpmfbknalaaTSs
import Derived.Test.YtbhfbpmfbknalaaSDraw
import Derived.Test.YtbhfbpmfbknalaaTCom
namespace Go.Proofs.Ytbhfbpmfbknalaa
open Go.RowKit

def OneInt (lo hi : Int) (w : World) (e : Ending) (w' : World) : Prop := ∃ n : Int, e = .returned (.int .i64 n) ∧ lo ≤ n ∧ n ≤ hi ∧ w.grownBy w' none
theorem DrawNamedTable_any (a : Option Addr) (len cap : Nat) (zs : List Int) (w : World) (h : IsRow .u8 w a len cap zs) :
    Calls Try.prog 24 #[.slice a len cap] w (OneInt (-1) 6 w) := by
  go_enter Try.func24, Try.ntmps24
  go_wp2_with fail
  refine (open_draw a len cap zs _ h).mono ?_
  rintro e w1 ⟨rfl, hr1, hg1⟩
  clear h
  go_wp2_with fail
  refine (pick_any _ _ _ _ hr1 (by omega)).mono ?_
  rintro e w2 ⟨k, rfl, h1, h2, hr2, hg2⟩
  go_wp2_with fail
  go_ret
  exact ⟨k - 1, rfl, by omega, by omega, grownBy_own hg1 hg2⟩
theorem DrawStrongOf_any (a : Option Addr) (len cap : Nat) (zs : List Int) (w : World) (h : IsRow .u8 w a len cap zs) :
    Calls Try.prog 33 #[.slice a len cap] w (OneInt (-1) 16 w) := by
  go_enter Try.func33, Try.ntmps33
  go_wp2_with fail
  refine (open_draw a len cap zs _ h).mono ?_
  rintro e w1 ⟨rfl, hr1, hg1⟩
  clear h
  go_wp2_with fail
  refine (pick_any _ _ _ _ hr1 (by omega)).mono ?_
  rintro e w2 ⟨k, rfl, h1, h2, hr2, hg2⟩
  go_wp2_with fail
  go_ret
  exact ⟨k - 1, rfl, by omega, by omega, grownBy_own hg1 hg2⟩

/-- What drawing a table leaves. -/
def TblPost (r P : Nat) (w : World) (e : Ending) (w' : World) : Prop :=
  ∃ a cap xs, e = .returned (.agg #[.slice a xs.length cap]) ∧ IntsAt w' a xs ∧ (∀ z, a = some z → w.heap.size ≤ z.block) ∧ Rd w' r P ∧ w.grownBy w' (some r)
/-- While a table is drawn: its variable, its row, the reader. -/
def TdC (w : World) (r P B : Nat) (a : Option Addr) (cap : Nat) (xs : List Int) (wc : World) : Prop :=
  xs.length = 9 ∧ T1 wc B (.slice a 9 cap) ∧ OwnI wc (w.heap.size + 1) a cap xs ∧ T1 wc w.heap.size (.slice none 0 0) ∧ Rd wc r P ∧ w.grownBy wc (some r)
theorem own_r {wc : World} {r base : Nat} {a : Option Addr} {cap : Nat} {xs : List Int} (h : OwnI wc base a cap xs) (hr : r < base) : (Value.slice a xs.length cap).ownBlock = none ∨ (Value.slice a xs.length cap).ownBlock ≠ some r :=
  .inr fun e => by
    have := World.ownsRow.lt h _ e
    omega
theorem TdC.pick {w wc w2 : World} {r P P2 B : Nat} {a : Option Addr} {cap : Nat} {xs : List Int} (h : TdC w r P B a cap xs wc) (hr : Rd w2 r P2) (hg : wc.grownBy w2 (some r)) (hrw : r < w.heap.size) : TdC w r P2 B a cap xs w2 := by
  obtain ⟨h1, h2, h3, h4, h5, h6⟩ := h
  have hB : B ≠ r := by
    rintro rfl
    obtain ⟨a', l', c', p', q0, q1, _⟩ := h5
    have := h2
    unfold T1 at this
    simp [World.cell?, this] at q1
  exact ⟨h1, h2.kept hg (by simp; exact hB), World.ownsRow.kept h3 hg (own_r h3 (by omega)), h4.kept hg (by simp; omega), hr, grownBy_trans h6 hg⟩
theorem TdC.addr {w wc : World} {r P B : Nat} {a : Option Addr} {cap : Nat} {xs : List Int} (h : TdC w r P B a cap xs wc) : ∃ g, a = some ⟨g, 0, none⟩ := by
  obtain ⟨h1, _, h3, _⟩ := h
  rcases h3.2 with ⟨_, h0⟩ | ⟨g, c, cur, he, _⟩
  · omega
  · simp only [Value.slice.injEq, true_and] at he
    exact ⟨g, he.1⟩
theorem TdC.cap9 {w wc : World} {r P B : Nat} {a : Option Addr} {cap : Nat} {xs : List Int} (h : TdC w r P B a cap xs wc) : 9 ≤ cap := by
  obtain ⟨h1, _, h3, _⟩ := h
  rcases h3.2 with ⟨_, h0⟩ | ⟨g, c, cur, he, _, _, hc, _⟩
  · omega
  · simp only [Value.slice.injEq, true_and] at he
    omega
theorem TdC.has {w wc : World} {r P B g : Nat} {cap : Nat} {xs : List Int} (h : TdC w r P B (some ⟨g, 0, none⟩) cap xs wc) {i : Nat} (hi : i < 9) : ∃ u, wc.cell? ⟨g, i, none⟩ = some (.int .i64 u) := by
  have := World.ownsRow.cellAt h.2.2.1 i (by have := h.1; omega)
  rw [this]
  have hl := h.1
  exact ⟨xs.getD i 0, by simp [List.getD_eq_getElem?_getD, show i < xs.length by omega]⟩
theorem TdC.free {w wc : World} {r P B g : Nat} {cap : Nat} {xs : List Int} (h : TdC w r P B (some ⟨g, 0, none⟩) cap xs wc) (i : Nat) : wc.frozen? ⟨g, i, none⟩ = false := World.ownsRow.frozenAt h.2.2.1 i
theorem row_ne {wc : World} {B g base : Nat} {s : Value} {cap : Nat} {xs : List Int} (h1 : T1 wc B s) (h2 : OwnI wc base (some ⟨g, 0, none⟩) cap xs) : B ≠ g := by
  rintro rfl
  rcases h2.2 with ⟨q, _⟩ | ⟨g', c, cur, he, _, hg, _⟩
  · simp at q
  · simp only [Value.slice.injEq, Option.some.injEq, Addr.mk.injEq, and_true, true_and] at he
    rw [← he.1] at hg
    unfold T1 at h1
    rw [h1] at hg
    simp at hg
theorem grow_atr {a b c : World} {B : Nat} {row : Option Nat} (h : a.grownBy b row) (k : b.grownBy c (some B)) (hB : a.heap.size ≤ B) : a.grownBy c row :=
  ⟨k.os.trans h.os, k.tape.trans h.tape, k.output.trans h.output, Nat.le_trans h.size k.size,
    fun i hi hne => (k.block i (Nat.lt_of_lt_of_le hi h.size) (by simp; omega)).trans (h.block i hi hne)⟩
theorem TdC.set {w wc : World} {r P B g : Nat} {cap : Nat} {xs : List Int} (h : TdC w r P B (some ⟨g, 0, none⟩) cap xs wc) {i : Nat} (_hi : i < 9) (v : Int) (hrw : r < w.heap.size) : TdC w r P B (some ⟨g, 0, none⟩) cap (xs.set i v) (wc.setCell ⟨g, i, none⟩ (.int .i64 v)) := by
  obtain ⟨h1, h2, h3, h4, h5, h6⟩ := h
  have hlt := World.ownsRow.lt h3 g rfl
  have hs := World.ownsRow.stored h3 i (.int .i64 v)
  have n1 := row_ne h2 h3
  have n2 := row_ne h4 h3
  refine ⟨by simp [h1], h2.kept hs.2 (by simp; exact n1), ?_, h4.kept hs.2 (by simp; exact n2), h5.kept fun k hk => hs.2.block k (by have := h5.lt; omega) (by simp; omega), grow_atr h6 hs.2 (by omega)⟩
  · have e : (xs.map (Value.int .i64)).set i (.int .i64 v) = (xs.set i v).map (Value.int .i64) := by rw [List.map_set]
    rw [e] at hs
    unfold OwnI
    rw [List.length_set]
    exact hs.1
theorem TdC.swap {w wc w2 : World} {r P B base : Nat} {a a' : Option Addr} {cap cap' : Nat} {xs zs : List Int} (h : TdC w r P B a cap xs wc) (hO : OwnI w2 base a' cap' zs) (hl : zs.length = 9) (hb : w.heap.size + 1 ≤ base) (hB : w.heap.size < B) (hrw : r < w.heap.size) (hg : wc.grownBy w2 none) : TdC w r P B a' cap' zs (w2.setCell ⟨B, 0, none⟩ (.slice a' 9 cap')) := by
  obtain ⟨_, h2, _, h4, h5, h6⟩ := h
  have hgs : w2.grownBy (w2.setCell ⟨B, 0, none⟩ (.slice a' 9 cap')) (some B) := grownBy_set w2 B 0 _
  have hne : (Value.slice a' zs.length cap').ownBlock = none ∨ (Value.slice a' zs.length cap').ownBlock ≠ some B := .inr fun e => by
    have hT := h2.grown hg
    rcases hO.2 with ⟨q, _⟩ | ⟨g', c, cur, he, _, hgc, _⟩
    · simp at q
      rw [q.1] at e
      simp [Value.ownBlock] at e
    · simp only [Value.slice.injEq, true_and] at he
      rw [he.1] at e
      simp [Value.ownBlock] at e
      subst e
      unfold T1 at hT
      rw [hT] at hgc
      simp at hgc
  have hrlt := h5.lt
  have hrB : B ≠ r := by
    rintro rfl
    obtain ⟨a1, l1, c1, p1, q0, q1, _⟩ := h5
    have := h2
    unfold T1 at this
    simp [World.cell?, this] at q1
  exact ⟨hl, (h2.grown hg).set, own_lower (World.ownsRow.kept hO hgs hne) hb, (h4.grown hg).kept hgs (by simp; omega), h5.kept fun k hk => (hgs.block k (by have := hg.size; omega) (by simp; omega)).trans (hg.block k (by omega) (by simp)), grow_atr (grownBy_trans h6 ⟨hg.os, hg.tape, hg.output, hg.size, fun i hi _ => hg.block i hi (by simp)⟩) hgs (by omega)⟩
theorem TdC.fin {w wc : World} {r P B : Nat} {a : Option Addr} {cap : Nat} {xs : List Int} (h : TdC w r P B a cap xs wc) (hrw : r < w.heap.size) :
    T1 (wc.setCell ⟨w.heap.size, 0, none⟩ (.slice a 9 cap)) w.heap.size (.slice a 9 cap) ∧ ∀ {Q : Nat}, P ≤ Q → TblPost r Q w (.returned (.agg #[.slice a 9 cap])) (wc.setCell ⟨w.heap.size, 0, none⟩ (.slice a 9 cap)) := by
  obtain ⟨h1, h2, h3, h4, h5, h6⟩ := h
  have hgs : wc.grownBy (wc.setCell ⟨w.heap.size, 0, none⟩ (.slice a 9 cap)) (some w.heap.size) := grownBy_set wc w.heap.size 0 _
  refine ⟨h4.set, fun {Q} hQ => ⟨a, cap, xs, by rw [h1], (World.ownsRow.kept h3 hgs (own_r h3 (by omega)) |> fun (k : OwnI _ _ a cap xs) => k.at (by rw [h1]; unfold maxLen; omega)), fun z hz => ?_, (h5.kept fun k hk => hgs.block k (by have := h5.lt; omega) (by simp; omega)).mono hQ, grow_atr h6 hgs (Nat.le_refl _)⟩⟩
  have := World.ownsRow.lt h3 z.block (by rw [hz]; rfl)
  omega
theorem TdC.fin1 {w wc : World} {r P B g : Nat} {cap : Nat} {xs : List Int} (h : TdC w r P B (some ⟨g, 0, none⟩) cap xs wc) (hrw : r < w.heap.size) (hB : w.heap.size < B) :
    T1 (wc.setCell ⟨B, 0, none⟩ (.slice (some ⟨g, 1, none⟩) 8 (cap - 1))) w.heap.size (.slice none 0 0) ∧ T1 (wc.setCell ⟨B, 0, none⟩ (.slice (some ⟨g, 1, none⟩) 8 (cap - 1))) B (.slice (some ⟨g, 1, none⟩) 8 (cap - 1)) ∧
    T1 ((wc.setCell ⟨B, 0, none⟩ (.slice (some ⟨g, 1, none⟩) 8 (cap - 1))).setCell ⟨w.heap.size, 0, none⟩ (.slice (some ⟨g, 1, none⟩) 8 (cap - 1))) w.heap.size (.slice (some ⟨g, 1, none⟩) 8 (cap - 1)) ∧
    ∀ {Q : Nat}, P ≤ Q → TblPost r Q w (.returned (.agg #[.slice (some ⟨g, 1, none⟩) 8 (cap - 1)])) ((wc.setCell ⟨B, 0, none⟩ (.slice (some ⟨g, 1, none⟩) 8 (cap - 1))).setCell ⟨w.heap.size, 0, none⟩ (.slice (some ⟨g, 1, none⟩) 8 (cap - 1))) := by
  obtain ⟨h1, h2, h3, h4, h5, h6⟩ := h
  have k1 : wc.grownBy (wc.setCell ⟨B, 0, none⟩ (.slice (some ⟨g, 1, none⟩) 8 (cap - 1))) (some B) := grownBy_set wc B 0 _
  have k2 : (wc.setCell ⟨B, 0, none⟩ (.slice (some ⟨g, 1, none⟩) 8 (cap - 1))).grownBy ((wc.setCell ⟨B, 0, none⟩ (.slice (some ⟨g, 1, none⟩) 8 (cap - 1))).setCell ⟨w.heap.size, 0, none⟩ (.slice (some ⟨g, 1, none⟩) 8 (cap - 1))) (some w.heap.size) := grownBy_set _ w.heap.size 0 _
  have hne := row_ne h2 h3
  have hlt := World.ownsRow.lt h3 g rfl
  have hrB : B ≠ r := by omega
  have q4 := h4.kept k1 (by simp; omega)
  have hO : OwnI wc (w.heap.size + 1) (some ⟨g, 0, none⟩) cap xs := h3
  have o1 : OwnI _ (w.heap.size + 1) (some ⟨g, 0, none⟩) cap xs := World.ownsRow.kept hO k1 (.inr (by simp [Value.ownBlock]; omega))
  have o2 : OwnI _ (w.heap.size + 1) (some ⟨g, 0, none⟩) cap xs := World.ownsRow.kept o1 k2 (.inr (by simp [Value.ownBlock]; omega))
  refine ⟨q4, h2.set, q4.set, fun {Q} hQ => ⟨some ⟨g, 1, none⟩, cap - 1, xs.drop 1, by rw [List.length_drop, h1], ⟨by rw [List.length_drop, h1]; unfold maxLen; omega, .inr ⟨g, 1, rfl, Nat.lt_of_lt_of_le hlt.2 (Nat.le_trans k1.size k2.size), fun i hi => ?_⟩⟩, fun z hz => ?_, ?_, grow_atr (grow_atr h6 k1 (by omega)) k2 (Nat.le_refl _)⟩⟩
  · rw [List.length_drop, h1] at hi
    rw [Nat.add_comm 1 i, World.ownsRow.cellAt o2 (i + 1) (by omega)]
    simp [List.getD_eq_getElem?_getD, show i + 1 < xs.length by omega]
  · cases hz; show w.heap.size ≤ g; omega
  · exact ((h5.kept fun k hk => k1.block k (by have := h5.lt; omega) (by simp; omega)).kept fun k hk => k2.block k (by have := h5.lt; have := k1.size; omega) (by simp; omega)).mono hQ

set_option maxHeartbeats 8000000 in
theorem tbl_draw (n : Int) (hn : 1 ≤ n ∧ n ≤ 1000) (w : World) (r P : Nat) (h : Rd w r P) (hP : P ≤ 90000) :
    Calls Try.prog 41 #[.pointer (some ⟨r, 0, none⟩), .int .i64 n] w (TblPost r (P + 20) w) := by
  have hrw := h.lt
  have g1 : w.grownBy (w.alloc (.cells #[.slice none 0 0] 25)) none := World.grownBy_alloc _ _ none
  have HZ := Lib.hid (T1.new w (.slice none 0 0))
  have HR := Lib.hid (h.alloc (.cells #[.slice none 0 0] 25))
  have HG := Lib.hid g1
  clear h g1
  go_enter Try.func41, Try.ntmps41
  go_wp2_with fail
  generalize hv0 : w.alloc (.cells #[.slice none 0 0] 25) = v0 at *
  clear hv0
  refine (pick_any 6 v0 r P HR.out (by omega)).mono ?_
  rintro e w1 ⟨k0, rfl, h0, h1, hr1, hg1⟩
  obtain ⟨m, rfl⟩ := Int.eq_ofNat_of_zero_le h0
  have hm : m < 6 := by omega
  have hnam : namR (m : Int) = namL m := if_pos (by omega)
  have cn := snam_any (m : Int) w1
  rw [hnam] at cn
  have hlen : (namL m).length = 9 := by simp [namL]
  clear h0 h1 hnam hm
  generalize namL m = zs0 at *
  generalize inN (m : Int) = bb at *
  go_wp2_with fail
  refine cn.mono ?_
  rintro e w2 ⟨a, cap, rfl, hO, hg2⟩
  have ga : w2.grownBy (w2.alloc (.cells #[.slice a zs0.length cap] 25)) none := World.grownBy_alloc _ _ none
  have h01 := HG.out.size
  have hZ1 := HZ.out.kept hg1 (by simp; omega)
  have hw01 : w.heap.size < w1.heap.size := hZ1.lt
  have TD0 : TdC w r (P + 1) w2.heap.size a cap zs0 (w2.alloc (.cells #[.slice a zs0.length cap] 25)) :=
    ⟨hlen, (by rw [← hlen]; exact T1.new w2 _), own_lower (hO.kept ga) (by omega), (hZ1.grown hg2).grown ga, (hr1.grown hg2).grown ga, grownBy_trans (grownBy_trans (show w.grownBy v0 (some r) from ⟨HG.out.os, HG.out.tape, HG.out.output, HG.out.size, fun i hi _ => HG.out.block i hi (by simp)⟩) hg1) (show w1.grownBy _ (some r) from ⟨(grownBy_trans hg2 ga).os, (grownBy_trans hg2 ga).tape, (grownBy_trans hg2 ga).output, (grownBy_trans hg2 ga).size, fun i hi _ => (grownBy_trans hg2 ga).block i hi (by simp)⟩)⟩
  have hB5 : w.heap.size < w2.heap.size := Nat.lt_of_lt_of_le hw01 hg2.size
  rw [hlen] at TD0
  have TD := Lib.hid TD0
  clear TD0 ga hZ1 hg2 hg1 hO cn hr1
  rw [hlen]
  go_wp2_with fail
  generalize hv2 : w2.alloc (.cells #[.slice a 9 cap] 25) = v2 at *
  clear hv2
  refine (pick_any 4 v2 r (P + 1) TD.out.2.2.2.2.1 (by omega)).mono ?_
  rintro e w3 ⟨c, rfl, c0, c1, hr3, hg3⟩
  have TC := Lib.hid (TD.out.pick hr3 hg3 hrw)
  clear hr3 hg3 TD
  have hc : c = 0 ∨ c = 1 ∨ c = 2 ∨ c = 3 := by omega
  clear c0 c1
  rcases hc with rfl | rfl | rfl | rfl
  · go_wp2_with fail
    refine (pick_any 16 w3 r _ TC.out.2.2.2.2.1 (by omega)).mono ?_
    rintro e w4 ⟨q, rfl, q0, q1, hr4, hg4⟩
    have TE := Lib.hid (TC.out.pick hr4 hg4 hrw)
    obtain ⟨m2, rfl⟩ := Int.eq_ofNat_of_zero_le q0
    have hsr : strR (m2 : Int) = strL m2 := if_pos (by omega)
    have cs := sstr_any (m2 : Int) w4
    rw [hsr] at cs
    have hl2 : (strL m2).length = 9 := by simp [strL]
    clear hr4 hg4 q0 q1 hsr
    generalize strL m2 = zs2 at *
    go_wp2_with fail
    refine cs.mono ?_
    rintro e w5 ⟨a2, cap2, rfl, hO2, hg5⟩
    have TS := Lib.hid (TE.out.swap hO2 hl2 (by have := TE.out.2.2.2.1.lt; omega) hB5 hrw hg5)
    have m1 := (TE.out.2.1.grown hg5).cell
    have f1 := (TE.out.2.1.grown hg5).free
    clear hO2 hg5 cs
    rw [hl2]
    go_wp2_with fail
    refine (odd_any n _ r _ TS.out.2.2.2.2.1 (by omega) hn.1 hn.2).mono ?_
    rintro e v3 ⟨ob, rfl, hr3, hg3⟩
    have TO := Lib.hid (TS.out.pick hr3 hg3 hrw)
    clear hr3 hg3
    cases ob
    · have m1 := TO.out.2.1.cell
      have m2 := TO.out.2.2.2.1.cell
      have m3 := TO.out.2.2.2.1.free
      have FIN := Lib.hid (TO.out.fin hrw)
      go_wp2_with fail
      exact bodyPost_ret (resT1 rfl _ rfl FIN.out.1) rfl (FIN.out.2 (by omega))
    · go_wp2_with fail
      refine (pick_any 2 _ r _ TO.out.2.2.2.2.1 (by omega)).mono ?_
      rintro e v4 ⟨q4, rfl, _, _, hr4, hg4⟩
      have TP := Lib.hid (TO.out.pick hr4 hg4 hrw)
      clear hr4 hg4
      by_cases hq4 : (q4 == 0) = true
      · go_wp2_with fail
        obtain ⟨g, ha⟩ := TP.out.addr
        cases ha
        have m1 := TP.out.2.1.cell
        have hb : v4.drew.cell? ⟨w2.heap.size, 0, none⟩ = some (.slice (some ⟨g, 0, none⟩) 9 cap2) ∧ w.grownBy v4.drew (some r) := ⟨m1, grownBy_drew TP.out.2.2.2.2.2⟩
        refine wp_region_noPanic ?_
        refine wp_region_held_drew (S := fun w' => w'.cell? ⟨w2.heap.size, 0, none⟩ = some (.slice (some ⟨g, 0, none⟩) 9 cap2) ∧ w.grownBy w' (some r)) (by kernel_rfl) hb (fun hH => ?_)
        clear m1 hb
        refine take_an 0 46 (v := ?v1) rfl rfl (by kernel_rfl) (by kernel_rfl) (by kernel_rfl) (fun _ _ _ h => h) (by rfl) ?y1 hH ?r1
        case y1 => (rintro w ⟨p0, p1⟩; go_simp; try with_reducible rfl)
        simp only [Act.put, List.setIfInBounds_toArray, List.set_cons_zero, List.set_cons_succ]
        refine take_an 1 47 (v := ?v2) rfl rfl (by kernel_rfl) (by kernel_rfl) (by kernel_rfl) (fun _ _ _ h => h) (by rfl) ?y2 hH ?r2
        case y2 => (rintro w ⟨p0, p1⟩; go_simp; try with_reducible rfl)
        simp only [Act.put, List.setIfInBounds_toArray, List.set_cons_zero, List.set_cons_succ]
        refine take_an 2 48 (v := ?v3) rfl rfl (by kernel_rfl) (by kernel_rfl) (by kernel_rfl) (fun _ _ _ h => h) (by rfl) ?y3 hH ?r3
        case y3 => (rintro w ⟨p0, p1⟩; go_simp; try with_reducible rfl)
        simp only [Act.put, List.setIfInBounds_toArray, List.set_cons_zero, List.set_cons_succ]
        refine wpAnyH_ready (rs := [3]) (by kernel_rfl) (by simp) ?_
        refine AllReadyH.cons rfl (fun K hK => ?_) AllReadyH.nil
        go_simp
        refine (pick_any 9 v4.drew r _ (TP.out.2.2.2.2.1.kept fun _ _ => rfl) (by omega)).mono ?_
        rintro e v1 ⟨q, rfl, q0, q1, hr9, hg9⟩
        have TE := Lib.hid (TP.out.pick hr9 (grownBy_trans (show v4.grownBy v4.drew (some r) from grownBy_drew (grownBy_refl _ _)) hg9) hrw)
        go_wp2_with fail
        refine hK.out _ _ (⟨TE.out.2.1.cell, TE.out.2.2.2.2.2⟩) (fun h9 => ?_)
        clear hK K
        try go_frame
        clear hr9 hg9
        obtain ⟨Q, rfl⟩ := Int.eq_ofNat_of_zero_le q0
        have hQ : Q < 9 := by omega
        have z0 : (0 : Int) ≤ (Q : Int) := by omega
        have z1 : (Q : Int) < 9 := by omega
        refine take_an 4 50 (v := ?v4) rfl rfl (by kernel_rfl) (by kernel_rfl) (by kernel_rfl) (fun _ _ _ h => h) (by rfl) ?y4 h9 ?r4
        case y4 => (rintro w ⟨p0, p1⟩; go_simp; try with_reducible rfl)
        simp only [Act.put, List.setIfInBounds_toArray, List.set_cons_zero, List.set_cons_succ]
        obtain ⟨u, c1⟩ := TE.out.has hQ
        have c2 := TE.out.free Q
        have TW := Lib.hid (TE.out.set hQ 3 hrw)
        refine wpAnyH_ready (rs := [5]) (by kernel_rfl) (by simp) ?_
        refine AllReadyH.cons rfl (fun K hK => ?_) AllReadyH.nil
        go_simp
        refine hK.out _ _ (⟨TW.out.2.1.cell, TW.out.2.2.2.2.2⟩) (fun h10 => ?_)
        clear hK K
        try go_frame
        clear c1 c2 hH h9 h10
        refine wpAnyH_done (by kernel_rfl) ?_ _
        refine NoPanic.normal ?_
        have m1 := TW.out.2.1.cell
        have m2 := TW.out.2.2.2.1.cell
        have m3 := TW.out.2.2.2.1.free
        have FIN := Lib.hid (TW.out.fin hrw)
        go_wp2_with fail
        exact bodyPost_ret (resT1 rfl _ rfl FIN.out.1) rfl (FIN.out.2 (by omega))
      · have hq5 : (q4 == 0) = false := by simpa using hq4
        clear hq4
        obtain ⟨g, ha⟩ := TP.out.addr
        cases ha
        have m1 := TP.out.2.1.cell
        have f1 := TP.out.2.1.free
        have hcap : 9 ≤ cap2 := TP.out.cap9
        have hcap2 : (9 : Int) ≤ (cap2 : Int) := by omega
        have FIN := Lib.hid (TP.out.fin1 hrw hB5)
        have m2 := FIN.out.1.cell
        have m3 := FIN.out.1.free
        have m4 := FIN.out.2.1.cell
        go_wp2_with fail
        exact bodyPost_ret (resT1 rfl _ rfl FIN.out.2.2.1) rfl (FIN.out.2.2.2 (by omega))
  · go_wp2_with fail
    go_loopw [7] (fun i wr => ∃ (k : Nat) (xs : List Int), k ≤ 9 ∧ i = .int .i64 k ∧ TdC w r (P + 2 + k) w2.heap.size a cap xs wr) (fun i _ => 9 - (intOf i).toNat)
    case atStart => exact ⟨0, _, by omega, rfl, TC.out⟩
    case round =>
      obtain ⟨k, xs, hk, rfl, hTR⟩ := hrel
      have TR := Lib.hid hTR
      clear hTR
      by_cases hlt : k < 9
      · have HLT := Lib.hid hlt
        have hk9 : (k : Int) < 9 := by omega
        clear hlt hk TC
        go_wp2_with fail
        obtain ⟨g, ha⟩ := TR.out.addr
        cases ha
        have m1 := TR.out.2.1.cell
        have hb : wr.drew.cell? ⟨w2.heap.size, 0, none⟩ = some (.slice (some ⟨g, 0, none⟩) 9 cap) ∧ w.grownBy wr.drew (some r) := ⟨m1, grownBy_drew TR.out.2.2.2.2.2⟩
        refine wp_region_noPanic ?_
        refine wp_region_held_drew (S := fun w' => w'.cell? ⟨w2.heap.size, 0, none⟩ = some (.slice (some ⟨g, 0, none⟩) 9 cap) ∧ w.grownBy w' (some r)) (by kernel_rfl) hb (fun hH => ?_)
        clear m1 hb
        refine take_an 0 27 (v := ?v9) rfl rfl (by kernel_rfl) (by kernel_rfl) (by kernel_rfl) (fun _ _ _ h => h) (by rfl) ?y9 hH ?r9
        case y9 => (rintro w ⟨p0, p1⟩; go_simp; try with_reducible rfl)
        simp only [Act.put, List.setIfInBounds_toArray, List.set_cons_zero, List.set_cons_succ]
        refine take_an 1 28 (v := ?v10) rfl rfl (by kernel_rfl) (by kernel_rfl) (by kernel_rfl) (fun _ _ _ h => h) (by rfl) ?y10 hH ?r10
        case y10 => (rintro w ⟨p0, p1⟩; go_simp; try with_reducible rfl)
        simp only [Act.put, List.setIfInBounds_toArray, List.set_cons_zero, List.set_cons_succ]
        refine take_an 2 29 (v := ?v11) rfl rfl (by kernel_rfl) (by kernel_rfl) (by kernel_rfl) (fun _ _ _ h => h) (by rfl) ?y11 hH ?r11
        case y11 => (rintro w ⟨p0, p1⟩; go_simp; try with_reducible rfl)
        simp only [Act.put, List.setIfInBounds_toArray, List.set_cons_zero, List.set_cons_succ]
        refine take_an 3 30 (v := ?v12) rfl rfl (by kernel_rfl) (by kernel_rfl) (by kernel_rfl) (fun _ _ _ h => h) (by rfl) ?y12 hH ?r12
        case y12 => (rintro w ⟨p0, p1⟩; go_simp; try with_reducible rfl)
        simp only [Act.put, List.setIfInBounds_toArray, List.set_cons_zero, List.set_cons_succ]
        refine wpAnyH_ready (rs := [4]) (by kernel_rfl) (by simp) ?_
        refine AllReadyH.cons rfl (fun K hK => ?_) AllReadyH.nil
        go_simp
        refine (pick_any 3 wr.drew r _ (TR.out.2.2.2.2.1.kept fun _ _ => rfl) (by omega)).mono ?_
        rintro e v1 ⟨q, rfl, q0, q1, hr9, hg9⟩
        have TE := Lib.hid (TR.out.pick hr9 (grownBy_trans (show wr.grownBy wr.drew (some r) from grownBy_drew (grownBy_refl _ _)) hg9) hrw)
        go_wp2_with fail
        refine hK.out _ _ (⟨TE.out.2.1.cell, TE.out.2.2.2.2.2⟩) (fun h9 => ?_)
        clear hK K
        try go_frame
        clear hr9 hg9
        have hQ : k < 9 := HLT.out
        have z0 : (0 : Int) ≤ (k : Int) := by omega
        have z1 : (k : Int) < 9 := by omega
        refine take_an 5 32 (v := ?v13) rfl rfl (by kernel_rfl) (by kernel_rfl) (by kernel_rfl) (fun _ _ _ h => h) (by rfl) ?y13 h9 ?r13
        case y13 => (rintro w ⟨p0, p1⟩; go_simp; try with_reducible rfl)
        simp only [Act.put, List.setIfInBounds_toArray, List.set_cons_zero, List.set_cons_succ]
        obtain ⟨u, c1⟩ := TE.out.has hQ
        have c2 := TE.out.free k
        have TW := Lib.hid (TE.out.set hQ q hrw)
        refine wpAnyH_ready (rs := [6]) (by kernel_rfl) (by simp) ?_
        refine AllReadyH.cons rfl (fun K hK => ?_) AllReadyH.nil
        go_simp
        refine hK.out _ _ (⟨TW.out.2.1.cell, TW.out.2.2.2.2.2⟩) (fun h10 => ?_)
        clear hK K
        try go_frame
        clear c1 c2 hH h9 h10
        refine wpAnyH_done (by kernel_rfl) ?_ _
        refine NoPanic.normal ?_
        go_wp2_with fail
        go_roundw
        case rel => exact ⟨k + 1, _, HLT.out, by go_num, TW.out⟩
        case measure => have := HLT.out; simp [intOf]; omega
      · obtain rfl : k = 9 := by omega
        clear hlt hk TC
        go_wp2_with fail
        refine (odd_any n _ r _ TR.out.2.2.2.2.1 (by omega) hn.1 hn.2).mono ?_
        rintro e v3 ⟨ob, rfl, hr3, hg3⟩
        have TO := Lib.hid (TR.out.pick hr3 hg3 hrw)
        clear hr3 hg3
        cases ob
        · have m1 := TO.out.2.1.cell
          have m2 := TO.out.2.2.2.1.cell
          have m3 := TO.out.2.2.2.1.free
          have FIN := Lib.hid (TO.out.fin hrw)
          go_wp2_with fail
          exact bodyPost_ret (resT1 rfl _ rfl FIN.out.1) rfl (FIN.out.2 (by omega))
        · go_wp2_with fail
          refine (pick_any 2 _ r _ TO.out.2.2.2.2.1 (by omega)).mono ?_
          rintro e v4 ⟨q4, rfl, _, _, hr4, hg4⟩
          have TP := Lib.hid (TO.out.pick hr4 hg4 hrw)
          clear hr4 hg4
          by_cases hq4 : (q4 == 0) = true
          · go_wp2_with fail
            obtain ⟨g, ha⟩ := TP.out.addr
            cases ha
            have m1 := TP.out.2.1.cell
            have hb : v4.drew.cell? ⟨w2.heap.size, 0, none⟩ = some (.slice (some ⟨g, 0, none⟩) 9 cap) ∧ w.grownBy v4.drew (some r) := ⟨m1, grownBy_drew TP.out.2.2.2.2.2⟩
            refine wp_region_noPanic ?_
            refine wp_region_held_drew (S := fun w' => w'.cell? ⟨w2.heap.size, 0, none⟩ = some (.slice (some ⟨g, 0, none⟩) 9 cap) ∧ w.grownBy w' (some r)) (by kernel_rfl) hb (fun hH => ?_)
            clear m1 hb
            refine take_an 0 46 (v := ?v5) rfl rfl (by kernel_rfl) (by kernel_rfl) (by kernel_rfl) (fun _ _ _ h => h) (by rfl) ?y5 hH ?r5
            case y5 => (rintro w ⟨p0, p1⟩; go_simp; try with_reducible rfl)
            simp only [Act.put, List.setIfInBounds_toArray, List.set_cons_zero, List.set_cons_succ]
            refine take_an 1 47 (v := ?v6) rfl rfl (by kernel_rfl) (by kernel_rfl) (by kernel_rfl) (fun _ _ _ h => h) (by rfl) ?y6 hH ?r6
            case y6 => (rintro w ⟨p0, p1⟩; go_simp; try with_reducible rfl)
            simp only [Act.put, List.setIfInBounds_toArray, List.set_cons_zero, List.set_cons_succ]
            refine take_an 2 48 (v := ?v7) rfl rfl (by kernel_rfl) (by kernel_rfl) (by kernel_rfl) (fun _ _ _ h => h) (by rfl) ?y7 hH ?r7
            case y7 => (rintro w ⟨p0, p1⟩; go_simp; try with_reducible rfl)
            simp only [Act.put, List.setIfInBounds_toArray, List.set_cons_zero, List.set_cons_succ]
            refine wpAnyH_ready (rs := [3]) (by kernel_rfl) (by simp) ?_
            refine AllReadyH.cons rfl (fun K hK => ?_) AllReadyH.nil
            go_simp
            refine (pick_any 9 v4.drew r _ (TP.out.2.2.2.2.1.kept fun _ _ => rfl) (by omega)).mono ?_
            rintro e v1 ⟨q, rfl, q0, q1, hr9, hg9⟩
            have TE := Lib.hid (TP.out.pick hr9 (grownBy_trans (show v4.grownBy v4.drew (some r) from grownBy_drew (grownBy_refl _ _)) hg9) hrw)
            go_wp2_with fail
            refine hK.out _ _ (⟨TE.out.2.1.cell, TE.out.2.2.2.2.2⟩) (fun h9 => ?_)
            clear hK K
            try go_frame
            clear hr9 hg9
            obtain ⟨Q, rfl⟩ := Int.eq_ofNat_of_zero_le q0
            have hQ : Q < 9 := by omega
            have z0 : (0 : Int) ≤ (Q : Int) := by omega
            have z1 : (Q : Int) < 9 := by omega
            refine take_an 4 50 (v := ?v8) rfl rfl (by kernel_rfl) (by kernel_rfl) (by kernel_rfl) (fun _ _ _ h => h) (by rfl) ?y8 h9 ?r8
            case y8 => (rintro w ⟨p0, p1⟩; go_simp; try with_reducible rfl)
            simp only [Act.put, List.setIfInBounds_toArray, List.set_cons_zero, List.set_cons_succ]
            obtain ⟨u, c1⟩ := TE.out.has hQ
            have c2 := TE.out.free Q
            have TW := Lib.hid (TE.out.set hQ 3 hrw)
            refine wpAnyH_ready (rs := [5]) (by kernel_rfl) (by simp) ?_
            refine AllReadyH.cons rfl (fun K hK => ?_) AllReadyH.nil
            go_simp
            refine hK.out _ _ (⟨TW.out.2.1.cell, TW.out.2.2.2.2.2⟩) (fun h10 => ?_)
            clear hK K
            try go_frame
            clear c1 c2 hH h9 h10
            refine wpAnyH_done (by kernel_rfl) ?_ _
            refine NoPanic.normal ?_
            have m1 := TW.out.2.1.cell
            have m2 := TW.out.2.2.2.1.cell
            have m3 := TW.out.2.2.2.1.free
            have FIN := Lib.hid (TW.out.fin hrw)
            go_wp2_with fail
            exact bodyPost_ret (resT1 rfl _ rfl FIN.out.1) rfl (FIN.out.2 (by omega))
          · have hq5 : (q4 == 0) = false := by simpa using hq4
            clear hq4
            obtain ⟨g, ha⟩ := TP.out.addr
            cases ha
            have m1 := TP.out.2.1.cell
            have f1 := TP.out.2.1.free
            have hcap : 9 ≤ cap := TP.out.cap9
            have hcap2 : (9 : Int) ≤ (cap : Int) := by omega
            have FIN := Lib.hid (TP.out.fin1 hrw hB5)
            have m2 := FIN.out.1.cell
            have m3 := FIN.out.1.free
            have m4 := FIN.out.2.1.cell
            go_wp2_with fail
            exact bodyPost_ret (resT1 rfl _ rfl FIN.out.2.2.1) rfl (FIN.out.2.2.2 (by omega))
  · go_wp2_with fail
    obtain ⟨g, ha⟩ := TC.out.addr
    cases ha
    have m1 := TC.out.2.1.cell
    have hb : w3.drew.cell? ⟨w2.heap.size, 0, none⟩ = some (.slice (some ⟨g, 0, none⟩) 9 cap) ∧ w.grownBy w3.drew (some r) := ⟨m1, grownBy_drew TC.out.2.2.2.2.2⟩
    refine wp_region_noPanic ?_
    refine wp_region_held_drew (S := fun w' => w'.cell? ⟨w2.heap.size, 0, none⟩ = some (.slice (some ⟨g, 0, none⟩) 9 cap) ∧ w.grownBy w' (some r)) (by kernel_rfl) hb (fun hH => ?_)
    clear m1 hb
    refine take_an 0 35 (v := ?v14) rfl rfl (by kernel_rfl) (by kernel_rfl) (by kernel_rfl) (fun _ _ _ h => h) (by rfl) ?y14 hH ?r14
    case y14 => (rintro w ⟨p0, p1⟩; go_simp; try with_reducible rfl)
    simp only [Act.put, List.setIfInBounds_toArray, List.set_cons_zero, List.set_cons_succ]
    refine take_an 1 36 (v := ?v15) rfl rfl (by kernel_rfl) (by kernel_rfl) (by kernel_rfl) (fun _ _ _ h => h) (by rfl) ?y15 hH ?r15
    case y15 => (rintro w ⟨p0, p1⟩; go_simp; try with_reducible rfl)
    simp only [Act.put, List.setIfInBounds_toArray, List.set_cons_zero, List.set_cons_succ]
    refine take_an 2 37 (v := ?v16) rfl rfl (by kernel_rfl) (by kernel_rfl) (by kernel_rfl) (fun _ _ _ h => h) (by rfl) ?y16 hH ?r16
    case y16 => (rintro w ⟨p0, p1⟩; go_simp; try with_reducible rfl)
    simp only [Act.put, List.setIfInBounds_toArray, List.set_cons_zero, List.set_cons_succ]
    refine wpAnyH_ready (rs := [3]) (by kernel_rfl) (by simp) ?_
    refine AllReadyH.cons rfl (fun K hK => ?_) AllReadyH.nil
    go_simp
    refine (pick_any 9 w3.drew r _ (TC.out.2.2.2.2.1.kept fun _ _ => rfl) (by omega)).mono ?_
    rintro e v1 ⟨q, rfl, q0, q1, hr9, hg9⟩
    have TE := Lib.hid (TC.out.pick hr9 (grownBy_trans (show w3.grownBy w3.drew (some r) from grownBy_drew (grownBy_refl _ _)) hg9) hrw)
    go_wp2_with fail
    refine hK.out _ _ (⟨TE.out.2.1.cell, TE.out.2.2.2.2.2⟩) (fun h9 => ?_)
    clear hK K
    try go_frame
    clear hr9 hg9
    obtain ⟨Q, rfl⟩ := Int.eq_ofNat_of_zero_le q0
    have hQ : Q < 9 := by omega
    have z0 : (0 : Int) ≤ (Q : Int) := by omega
    have z1 : (Q : Int) < 9 := by omega
    refine take_an 4 39 (v := ?v17) rfl rfl (by kernel_rfl) (by kernel_rfl) (by kernel_rfl) (fun _ _ _ h => h) (by rfl) ?y17 h9 ?r17
    case y17 => (rintro w ⟨p0, p1⟩; go_simp; try with_reducible rfl)
    simp only [Act.put, List.setIfInBounds_toArray, List.set_cons_zero, List.set_cons_succ]
    obtain ⟨u, c1⟩ := TE.out.has hQ
    have c2 := TE.out.free Q
    have TV := Lib.hid (TE.out.set hQ 1 hrw)
    refine wpAnyH_ready (rs := [5]) (by kernel_rfl) (by simp) ?_
    refine AllReadyH.cons rfl (fun K hK => ?_) AllReadyH.nil
    go_simp
    refine hK.out _ _ (⟨TV.out.2.1.cell, TV.out.2.2.2.2.2⟩) (fun h10 => ?_)
    clear hK K
    try go_frame
    clear c1 c2 hH h9 h10
    refine wpAnyH_done (by kernel_rfl) ?_ _
    refine NoPanic.normal ?_
    go_wp2_with fail
    refine (odd_any n _ r _ TV.out.2.2.2.2.1 (by omega) hn.1 hn.2).mono ?_
    rintro e v3 ⟨ob, rfl, hr3, hg3⟩
    have TO := Lib.hid (TV.out.pick hr3 hg3 hrw)
    clear hr3 hg3
    cases ob
    · have m1 := TO.out.2.1.cell
      have m2 := TO.out.2.2.2.1.cell
      have m3 := TO.out.2.2.2.1.free
      have FIN := Lib.hid (TO.out.fin hrw)
      go_wp2_with fail
      exact bodyPost_ret (resT1 rfl _ rfl FIN.out.1) rfl (FIN.out.2 (by omega))
    · go_wp2_with fail
      refine (pick_any 2 _ r _ TO.out.2.2.2.2.1 (by omega)).mono ?_
      rintro e v4 ⟨q4, rfl, _, _, hr4, hg4⟩
      have TP := Lib.hid (TO.out.pick hr4 hg4 hrw)
      clear hr4 hg4
      by_cases hq4 : (q4 == 0) = true
      · go_wp2_with fail
        obtain ⟨g, ha⟩ := TP.out.addr
        cases ha
        have m1 := TP.out.2.1.cell
        have hb : v4.drew.cell? ⟨w2.heap.size, 0, none⟩ = some (.slice (some ⟨g, 0, none⟩) 9 cap) ∧ w.grownBy v4.drew (some r) := ⟨m1, grownBy_drew TP.out.2.2.2.2.2⟩
        refine wp_region_noPanic ?_
        refine wp_region_held_drew (S := fun w' => w'.cell? ⟨w2.heap.size, 0, none⟩ = some (.slice (some ⟨g, 0, none⟩) 9 cap) ∧ w.grownBy w' (some r)) (by kernel_rfl) hb (fun hH => ?_)
        clear m1 hb
        refine take_an 0 46 (v := ?v18) rfl rfl (by kernel_rfl) (by kernel_rfl) (by kernel_rfl) (fun _ _ _ h => h) (by rfl) ?y18 hH ?r18
        case y18 => (rintro w ⟨p0, p1⟩; go_simp; try with_reducible rfl)
        simp only [Act.put, List.setIfInBounds_toArray, List.set_cons_zero, List.set_cons_succ]
        refine take_an 1 47 (v := ?v19) rfl rfl (by kernel_rfl) (by kernel_rfl) (by kernel_rfl) (fun _ _ _ h => h) (by rfl) ?y19 hH ?r19
        case y19 => (rintro w ⟨p0, p1⟩; go_simp; try with_reducible rfl)
        simp only [Act.put, List.setIfInBounds_toArray, List.set_cons_zero, List.set_cons_succ]
        refine take_an 2 48 (v := ?v20) rfl rfl (by kernel_rfl) (by kernel_rfl) (by kernel_rfl) (fun _ _ _ h => h) (by rfl) ?y20 hH ?r20
        case y20 => (rintro w ⟨p0, p1⟩; go_simp; try with_reducible rfl)
        simp only [Act.put, List.setIfInBounds_toArray, List.set_cons_zero, List.set_cons_succ]
        refine wpAnyH_ready (rs := [3]) (by kernel_rfl) (by simp) ?_
        refine AllReadyH.cons rfl (fun K hK => ?_) AllReadyH.nil
        go_simp
        refine (pick_any 9 v4.drew r _ (TP.out.2.2.2.2.1.kept fun _ _ => rfl) (by omega)).mono ?_
        rintro e v1 ⟨q, rfl, q0, q1, hr9, hg9⟩
        have TE := Lib.hid (TP.out.pick hr9 (grownBy_trans (show v4.grownBy v4.drew (some r) from grownBy_drew (grownBy_refl _ _)) hg9) hrw)
        go_wp2_with fail
        refine hK.out _ _ (⟨TE.out.2.1.cell, TE.out.2.2.2.2.2⟩) (fun h9 => ?_)
        clear hK K
        try go_frame
        clear hr9 hg9
        obtain ⟨Q, rfl⟩ := Int.eq_ofNat_of_zero_le q0
        have hQ : Q < 9 := by omega
        have z0 : (0 : Int) ≤ (Q : Int) := by omega
        have z1 : (Q : Int) < 9 := by omega
        refine take_an 4 50 (v := ?v21) rfl rfl (by kernel_rfl) (by kernel_rfl) (by kernel_rfl) (fun _ _ _ h => h) (by rfl) ?y21 h9 ?r21
        case y21 => (rintro w ⟨p0, p1⟩; go_simp; try with_reducible rfl)
        simp only [Act.put, List.setIfInBounds_toArray, List.set_cons_zero, List.set_cons_succ]
        obtain ⟨u, c1⟩ := TE.out.has hQ
        have c2 := TE.out.free Q
        have TW := Lib.hid (TE.out.set hQ 3 hrw)
        refine wpAnyH_ready (rs := [5]) (by kernel_rfl) (by simp) ?_
        refine AllReadyH.cons rfl (fun K hK => ?_) AllReadyH.nil
        go_simp
        refine hK.out _ _ (⟨TW.out.2.1.cell, TW.out.2.2.2.2.2⟩) (fun h10 => ?_)
        clear hK K
        try go_frame
        clear c1 c2 hH h9 h10
        refine wpAnyH_done (by kernel_rfl) ?_ _
        refine NoPanic.normal ?_
        have m1 := TW.out.2.1.cell
        have m2 := TW.out.2.2.2.1.cell
        have m3 := TW.out.2.2.2.1.free
        have FIN := Lib.hid (TW.out.fin hrw)
        go_wp2_with fail
        exact bodyPost_ret (resT1 rfl _ rfl FIN.out.1) rfl (FIN.out.2 (by omega))
      · have hq5 : (q4 == 0) = false := by simpa using hq4
        clear hq4
        obtain ⟨g, ha⟩ := TP.out.addr
        cases ha
        have m1 := TP.out.2.1.cell
        have f1 := TP.out.2.1.free
        have hcap : 9 ≤ cap := TP.out.cap9
        have hcap2 : (9 : Int) ≤ (cap : Int) := by omega
        have FIN := Lib.hid (TP.out.fin1 hrw hB5)
        have m2 := FIN.out.1.cell
        have m3 := FIN.out.1.free
        have m4 := FIN.out.2.1.cell
        go_wp2_with fail
        exact bodyPost_ret (resT1 rfl _ rfl FIN.out.2.2.1) rfl (FIN.out.2.2.2 (by omega))
  · go_wp2_with fail
    refine (odd_any n _ r _ TC.out.2.2.2.2.1 (by omega) hn.1 hn.2).mono ?_
    rintro e v3 ⟨ob, rfl, hr3, hg3⟩
    have TO := Lib.hid (TC.out.pick hr3 hg3 hrw)
    clear hr3 hg3
    cases ob
    · have m1 := TO.out.2.1.cell
      have m2 := TO.out.2.2.2.1.cell
      have m3 := TO.out.2.2.2.1.free
      have FIN := Lib.hid (TO.out.fin hrw)
      go_wp2_with fail
      exact bodyPost_ret (resT1 rfl _ rfl FIN.out.1) rfl (FIN.out.2 (by omega))
    · go_wp2_with fail
      refine (pick_any 2 _ r _ TO.out.2.2.2.2.1 (by omega)).mono ?_
      rintro e v4 ⟨q4, rfl, _, _, hr4, hg4⟩
      have TP := Lib.hid (TO.out.pick hr4 hg4 hrw)
      clear hr4 hg4
      by_cases hq4 : (q4 == 0) = true
      · go_wp2_with fail
        obtain ⟨g, ha⟩ := TP.out.addr
        cases ha
        have m1 := TP.out.2.1.cell
        have hb : v4.drew.cell? ⟨w2.heap.size, 0, none⟩ = some (.slice (some ⟨g, 0, none⟩) 9 cap) ∧ w.grownBy v4.drew (some r) := ⟨m1, grownBy_drew TP.out.2.2.2.2.2⟩
        refine wp_region_noPanic ?_
        refine wp_region_held_drew (S := fun w' => w'.cell? ⟨w2.heap.size, 0, none⟩ = some (.slice (some ⟨g, 0, none⟩) 9 cap) ∧ w.grownBy w' (some r)) (by kernel_rfl) hb (fun hH => ?_)
        clear m1 hb
        refine take_an 0 46 (v := ?v22) rfl rfl (by kernel_rfl) (by kernel_rfl) (by kernel_rfl) (fun _ _ _ h => h) (by rfl) ?y22 hH ?r22
        case y22 => (rintro w ⟨p0, p1⟩; go_simp; try with_reducible rfl)
        simp only [Act.put, List.setIfInBounds_toArray, List.set_cons_zero, List.set_cons_succ]
        refine take_an 1 47 (v := ?v23) rfl rfl (by kernel_rfl) (by kernel_rfl) (by kernel_rfl) (fun _ _ _ h => h) (by rfl) ?y23 hH ?r23
        case y23 => (rintro w ⟨p0, p1⟩; go_simp; try with_reducible rfl)
        simp only [Act.put, List.setIfInBounds_toArray, List.set_cons_zero, List.set_cons_succ]
        refine take_an 2 48 (v := ?v24) rfl rfl (by kernel_rfl) (by kernel_rfl) (by kernel_rfl) (fun _ _ _ h => h) (by rfl) ?y24 hH ?r24
        case y24 => (rintro w ⟨p0, p1⟩; go_simp; try with_reducible rfl)
        simp only [Act.put, List.setIfInBounds_toArray, List.set_cons_zero, List.set_cons_succ]
        refine wpAnyH_ready (rs := [3]) (by kernel_rfl) (by simp) ?_
        refine AllReadyH.cons rfl (fun K hK => ?_) AllReadyH.nil
        go_simp
        refine (pick_any 9 v4.drew r _ (TP.out.2.2.2.2.1.kept fun _ _ => rfl) (by omega)).mono ?_
        rintro e v1 ⟨q, rfl, q0, q1, hr9, hg9⟩
        have TE := Lib.hid (TP.out.pick hr9 (grownBy_trans (show v4.grownBy v4.drew (some r) from grownBy_drew (grownBy_refl _ _)) hg9) hrw)
        go_wp2_with fail
        refine hK.out _ _ (⟨TE.out.2.1.cell, TE.out.2.2.2.2.2⟩) (fun h9 => ?_)
        clear hK K
        try go_frame
        clear hr9 hg9
        obtain ⟨Q, rfl⟩ := Int.eq_ofNat_of_zero_le q0
        have hQ : Q < 9 := by omega
        have z0 : (0 : Int) ≤ (Q : Int) := by omega
        have z1 : (Q : Int) < 9 := by omega
        refine take_an 4 50 (v := ?v25) rfl rfl (by kernel_rfl) (by kernel_rfl) (by kernel_rfl) (fun _ _ _ h => h) (by rfl) ?y25 h9 ?r25
        case y25 => (rintro w ⟨p0, p1⟩; go_simp; try with_reducible rfl)
        simp only [Act.put, List.setIfInBounds_toArray, List.set_cons_zero, List.set_cons_succ]
        obtain ⟨u, c1⟩ := TE.out.has hQ
        have c2 := TE.out.free Q
        have TW := Lib.hid (TE.out.set hQ 3 hrw)
        refine wpAnyH_ready (rs := [5]) (by kernel_rfl) (by simp) ?_
        refine AllReadyH.cons rfl (fun K hK => ?_) AllReadyH.nil
        go_simp
        refine hK.out _ _ (⟨TW.out.2.1.cell, TW.out.2.2.2.2.2⟩) (fun h10 => ?_)
        clear hK K
        try go_frame
        clear c1 c2 hH h9 h10
        refine wpAnyH_done (by kernel_rfl) ?_ _
        refine NoPanic.normal ?_
        have m1 := TW.out.2.1.cell
        have m2 := TW.out.2.2.2.1.cell
        have m3 := TW.out.2.2.2.1.free
        have FIN := Lib.hid (TW.out.fin hrw)
        go_wp2_with fail
        exact bodyPost_ret (resT1 rfl _ rfl FIN.out.1) rfl (FIN.out.2 (by omega))
      · have hq5 : (q4 == 0) = false := by simpa using hq4
        clear hq4
        obtain ⟨g, ha⟩ := TP.out.addr
        cases ha
        have m1 := TP.out.2.1.cell
        have f1 := TP.out.2.1.free
        have hcap : 9 ≤ cap := TP.out.cap9
        have hcap2 : (9 : Int) ≤ (cap : Int) := by omega
        have FIN := Lib.hid (TP.out.fin1 hrw hB5)
        have m2 := FIN.out.1.cell
        have m3 := FIN.out.1.free
        have m4 := FIN.out.2.1.cell
        go_wp2_with fail
        exact bodyPost_ret (resT1 rfl _ rfl FIN.out.2.2.1) rfl (FIN.out.2.2.2 (by omega))

end Go.Proofs.Ytbhfbpmfbknalaa
