/-
  Ahead of the draw of a desk: what lies where between the deeds.
-/
import Derived.Test.YtlnffpofbfigaaaGreatDoorDDo2
import Derived.Test.YtlnffpofbfigaaaGreatDoorADraw
import Derived.Test.YtlnffpofbfigaaaGreatDoorDWa
import Derived.Deep.RegionWith
import Derived.Deep.AppendLies
namespace Go.Proofs.YtlnffpofbfigaaaGreatDoor
open Go.RowKit

def DDPost (r P : Nat) (w : World) (e : Ending) (w' : World) : Prop := ∃ (d : Dk) (a : Option Addr) (cap : Nat), e = .returned (dkV d a cap) ∧ Own2 w' w.heap.size a cap d.2 ∧ Rd w' r (P + 700) ∧ w.grownBy w' (some r)
theorem doR_len {d : Dk} {D : Dd} (h : (doR d D).2 = true) : (doR d D).1.2.length ≤ d.2.length + 1 := by
  unfold doR at h ⊢
  split at h
  · rename_i hd
    rw [if_pos hd]
    cases hq : doD d D with
    | none => rw [hq] at h; cases h
    | some e =>
      show e.2.length ≤ d.2.length + 1
      rcases doD_of hq with ⟨_, p, _, rfl⟩ | ⟨_, y, _, rfl⟩
      · show d.2.dropLast.length ≤ _
        rw [List.length_dropLast]; omega
      · show (capP (d.2 ++ [d.1])).length ≤ _
        unfold capP
        rw [List.length_drop, List.length_append, List.length_singleton]; omega
  · cases h
theorem grown_none {a b : World} {row : Option Nat} (h : a.grownBy b none) : a.grownBy b row := ⟨h.os, h.tape, h.output, h.size, fun k hk _ => h.block k hk (by simp)⟩
/-- A desk that is being made, between the deeds: its block, its row, the drawing. -/
def DkL (w0 : World) (b r P : Nat) (k : Value) (wr : World) : Prop :=
  ∃ (j : Nat) (d : Dk) (a : Option Addr) (cap : Nat), k = .int .i64 j ∧ j ≤ 5 ∧ d.2.length + j ≤ 5 ∧ CellsAt wr b #[.int .i64 d.1.1, .string (bs d.1.2), .slice a d.2.length cap] 32 ∧ Own2 wr w0.heap.size a cap d.2 ∧ Rd wr r (P + 502 - j * 100) ∧ w0.grownBy wr (some r) ∧ CellsAt wr w0.heap.size #[.int .i64 0, .string ⟨#[]⟩, .slice none 0 0] 32
theorem three_facts {W : World} {b : Nat} {u v x : Value} (h : CellsAt W b #[u, v, x] 32) : (W.cell? ⟨b, 0, none⟩ = some u ∧ W.cell? ⟨b, 1, none⟩ = some v ∧ W.cell? ⟨b, 2, none⟩ = some x) ∧ W.frozen? ⟨b, 0, none⟩ = false ∧ W.frozen? ⟨b, 1, none⟩ = false ∧ W.frozen? ⟨b, 2, none⟩ = false := ⟨h.three, h.frozen 0, h.frozen 1, h.frozen 2⟩
theorem Own2.aside {w w' : World} {base b : Nat} {a : Option Addr} {cap : Nat} {zs : List Ld} (h : Own2 w base a cap zs) (hg : w.grownBy w' (.some b)) (hb : b < base) : Own2 w' base a cap zs := h.past hg hb

theorem rd_put {wd w' : World} {r P b : Nat} (hr : Rd wd r P) (hg : wd.grownBy w' (some b)) (hb : r < b) : Rd w' r P := hr.kept fun k hk => hg.block k (by have := hr.lt; omega) (by simp; omega)
theorem grown_put {w wd w' : World} {r b : Nat} (h : w.grownBy wd (some r)) (hg : wd.grownBy w' (some b)) (hb : w.heap.size ≤ b) : w.grownBy w' (some r) :=
  ⟨hg.os.trans h.os, hg.tape.trans h.tape, hg.output.trans h.output, Nat.le_trans h.size hg.size, fun k hk hn => (hg.block k (Nat.lt_of_lt_of_le hk h.size) (by simp; omega)).trans (h.block k hk hn)⟩
def BaseD (w0 : World) (b r Q : Nat) (W : World) (u v x : Value) : Prop := CellsAt W b #[u, v, x] 32 ∧ CellsAt W w0.heap.size #[.int .i64 0, .string ⟨#[]⟩, .slice none 0 0] 32 ∧ Rd W r Q ∧ w0.grownBy W (some r)
theorem BaseD.put {w0 W : World} {b r Q : Nat} {u v x : Value} (h : BaseD w0 b r Q W u v x) (hb : w0.heap.size < b) (hr : r < w0.heap.size) (p q t : Value) : BaseD w0 b r Q (((W.setCell ⟨b, 0, none⟩ p).setCell ⟨b, 1, none⟩ q).setCell ⟨b, 2, none⟩ t) p q t :=
  ⟨h.1.put3 p q t, h.2.1.kept (put3_past W b p q t) (by simp; omega), rd_put h.2.2.1 (put3_past W b p q t) (by omega), grown_put h.2.2.2 (put3_past W b p q t) (by omega)⟩
theorem BaseD.aside {w0 W : World} {b c r Q : Nat} {u v x : Value} (h : BaseD w0 b r Q W u v x) (hc : w0.heap.size < c) (hne : c ≠ b) (hr : r < w0.heap.size) (p q t : Value) : BaseD w0 b r Q (((W.setCell ⟨c, 0, none⟩ p).setCell ⟨c, 1, none⟩ q).setCell ⟨c, 2, none⟩ t) u v x :=
  ⟨h.1.kept (put3_past W c p q t) (by simp; omega), h.2.1.kept (put3_past W c p q t) (by simp; omega), rd_put h.2.2.1 (put3_past W c p q t) (by omega), grown_put h.2.2.2 (put3_past W c p q t) (by omega)⟩
theorem BaseD.alloc {w0 W : World} {b r Q : Nat} {u v x : Value} (h : BaseD w0 b r Q W u v x) (X : Obj) : BaseD w0 b r Q (W.alloc X) u v x :=
  ⟨h.1.grown (World.grownBy_alloc _ _ none), h.2.1.grown (World.grownBy_alloc _ _ none), h.2.2.1.alloc _, grownBy_trans h.2.2.2 (World.grownBy_alloc _ _ _)⟩
theorem Own2.put3 {W : World} {base b : Nat} {a : Option Addr} {cap : Nat} {xs : List Ld} (o : Own2 W base a cap xs) (hB : DkB W b) (p q t : Value) : Own2 (((W.setCell ⟨b, 0, none⟩ p).setCell ⟨b, 1, none⟩ q).setCell ⟨b, 2, none⟩ t) base a cap xs := by
  have := Own2.sets [(0, p), (1, q), (2, t)] W o hB
  simp only [setsO] at this
  exact this
theorem DkL.mk {w0 W : World} {b r Q P j : Nat} {m : Int} {s : List UInt8} {xs : List Ld} {a : Option Addr} {cap : Nat} {k : Value} (h : BaseD w0 b r Q W (.int .i64 m) (.string (bs s)) (.slice a xs.length cap)) (o : Own2 W w0.heap.size a cap xs) (hk : k = .int .i64 j) (hj : j ≤ 5) (hx : xs.length + j ≤ 5) (hQ : Q ≤ P + 502 - j * 100) : DkL w0 b r P k W :=
  ⟨j, ((m, s), xs), a, cap, hk, hj, hx, h.1, o, h.2.2.1.mono hQ, h.2.2.2, h.2.1⟩
/-- What is told of the draw of a deed. -/
def DeedC : Prop := ∀ (w : World) (r P : Nat), Rd w r P → P ≤ 60000 → Calls Tryz.prog 95 #[.pointer (some ⟨r, 0, none⟩)] w fun e w' => ∃ D : Dd, e = .returned (.agg #[.int .i64 D.1, .int .i64 D.2.1, .string (bs D.2.2)]) ∧ D.2.2.length ≤ 100 ∧ Rd w' r (P + 100) ∧ w.grownBy w' (some r)

/-- The model's DeskDo as the draw needs it. -/
theorem sdo_drawn (m : Int) (s : List UInt8) (xs : List Ld) (a : Option Addr) (cap : Nat) (w0 : Nat) (hl : xs.length ≤ 5) (w : World) (D : Dd) (ho : Own2 w w0 a cap xs) (hw : w0 ≤ w.heap.size) :
    Calls Tryz.prog 61 #[.agg #[.int .i64 m, .string (bs s), .slice a xs.length cap], .agg #[.int .i64 D.1, .int .i64 D.2.1, .string (bs D.2.2)]] w fun e w' =>
      ∃ (m2 : Int) (s2 : List UInt8) (xs2 : List Ld) (ok : Bool) (a2 : Option Addr) (cap2 : Nat), e = .returned (.tuple #[.agg #[.int .i64 m2, .string (bs s2), .slice a2 xs2.length cap2], .bool ok]) ∧ (ok = true → xs2.length ≤ xs.length + 1 ∧ Own2 w' w0 a2 cap2 xs2) ∧ w.grownBy w' none := by
  refine (sdo_any ((m, s), xs) D a cap w ho.at ho.bare).mono ?_
  rintro e w' hS
  have hn := doR_len (d := ((m, s), xs)) (D := D)
  generalize doR ((m, s), xs) D = R at *
  obtain ⟨⟨⟨m2, s2⟩, xs2⟩, ok⟩ := R
  obtain ⟨a2, cap2, rfl, _, _, hg, h7⟩ := hS
  refine ⟨m2, s2, xs2, ok, a2, cap2, rfl, fun h => ?_, hg⟩
  have := hn h
  change xs2.length ≤ xs.length + 1 at this
  exact ⟨this, (h7 (by show xs2.length ≤ 7; omega)).mono hw⟩
/-- A new block for a desk ahead of a call and behind it. -/
theorem nf_1 {W0 wb : World} {r : Nat} (hg : (W0.alloc (.cells #[.int .i64 0, .string ⟨#[]⟩, .slice none 0 0] 32)).grownBy wb (some r)) (hr : r < W0.heap.size) : CellsAt wb W0.heap.size #[.int .i64 0, .string ⟨#[]⟩, .slice none 0 0] 32 := (CellsAt.new W0 _ _).kept hg (by simp; omega)
theorem nf_2 {wb wd : World} (hg : (wb.alloc (.cells #[.int .i64 0, .string ⟨#[]⟩, .slice none 0 0] 32)).grownBy wd none) : CellsAt wd wb.heap.size #[.int .i64 0, .string ⟨#[]⟩, .slice none 0 0] 32 := (CellsAt.new wb _ _).grown hg

theorem desk_end {w W : World} {b r Q P : Nat} {m : Int} {s : ByteArray} {a : Option Addr} {cap L : Nat} {xs : List Ld} (h : BaseD w b r Q W (.int .i64 m) (.string s) (.slice a L cap)) (o : Own2 W w.heap.size a cap xs) (hL : L = xs.length) (hr : r < w.heap.size) (hQ : Q ≤ P + 700) :
    CellsAt (((W.setCell ⟨w.heap.size, 0, none⟩ (.int .i64 m)).setCell ⟨w.heap.size, 1, none⟩ (.string s)).setCell ⟨w.heap.size, 2, none⟩ (.slice a L cap)) w.heap.size #[.int .i64 m, .string s, .slice a L cap] 32 ∧ DDPost r P w (.returned (.agg #[.int .i64 m, .string s, .slice a L cap])) (((W.setCell ⟨w.heap.size, 0, none⟩ (.int .i64 m)).setCell ⟨w.heap.size, 1, none⟩ (.string s)).setCell ⟨w.heap.size, 2, none⟩ (.slice a L cap)) := by
  subst hL
  exact ⟨h.2.1.put3 _ _ _, ((m, bl s), xs), a, cap, rfl, o.put3 ⟨_, h.2.1⟩ _ _ _, (rd_put h.2.2.1 (put3_past W _ _ _ _) hr).mono hQ, grown_put h.2.2.2 (put3_past W _ _ _ _) (Nat.le_refl _)⟩
theorem BaseD.set {w0 W : World} {b r Q : Nat} {u v x : Value} (h : BaseD w0 b r Q W u v x) (hb : w0.heap.size < b) (hr : r < w0.heap.size) (i : Nat) (p : Value) : CellsAt (W.setCell ⟨b, i, none⟩ p) w0.heap.size #[.int .i64 0, .string ⟨#[]⟩, .slice none 0 0] 32 ∧ Rd (W.setCell ⟨b, i, none⟩ p) r Q ∧ w0.grownBy (W.setCell ⟨b, i, none⟩ p) (some r) :=
  ⟨h.2.1.kept (grownBy_set W b i p) (by simp; omega), rd_put h.2.2.1 (grownBy_set W b i p) (by omega), grown_put h.2.2.2 (grownBy_set W b i p) (by omega)⟩
theorem beside_own {W W' : World} {base b : Nat} {a : Option Addr} {cap : Nat} {xs : List Ld} {vs : Array Value} (h : CellsAt W b vs 32) (o : Own2 W base a cap xs) (hg : W.grownBy W' (Value.slice a xs.length cap).ownBlock) : CellsAt W' b vs 32 := by
  refine h.kept hg fun e => ?_
  rcases o.2 with ⟨h0, _⟩ | ⟨g, c, cur, he, hb, hgg, _⟩
  · rw [h0] at e; cases e
  · rw [he] at e
    cases e
    unfold CellsAt at h
    rw [hgg] at h
    simp at h
theorem BaseD.own {w0 W W' : World} {b r Q : Nat} {u v x : Value} {a : Option Addr} {cap : Nat} {xs : List Ld} (h : BaseD w0 b r Q W u v x) (o : Own2 W w0.heap.size a cap xs) (hr : r < w0.heap.size) (hg : W.grownBy W' (Value.slice a xs.length cap).ownBlock) : BaseD w0 b r Q W' u v x := by
  have hlt := World.ownsRow.lt o
  refine ⟨beside_own h.1 o hg, beside_own h.2.1 o hg, h.2.2.1.kept fun k hk => hg.block k (by have := h.2.2.1.lt; omega) fun e => ?_, ?_⟩
  · have := hlt k e.symm
    omega
  · have g := h.2.2.2
    exact ⟨hg.os.trans g.os, hg.tape.trans g.tape, hg.output.trans g.output, Nat.le_trans g.size hg.size, fun k hk hn => (hg.block k (Nat.lt_of_lt_of_le hk g.size) (fun e => by have := hlt k e.symm; omega)).trans (g.block k hk hn)⟩

theorem dkB_at {W : World} {b : Nat} {vs : Array Value} (h : CellsAt W b vs 32) : DkB W b := ⟨vs, h⟩

end Go.Proofs.YtlnffpofbfigaaaGreatDoor
