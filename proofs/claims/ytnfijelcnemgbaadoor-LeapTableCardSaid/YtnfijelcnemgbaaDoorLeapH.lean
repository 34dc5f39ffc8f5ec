/-
  sort.Search over the table's lines; the closures.
-/
import Derived.Test.YtnfijelcnemgbaaDoorLeapF
import Derived.Test.YtnfijelcnemgbaaDoorSearch
import Derived.Deep.RegionHeld3
import Derived.Deep.WholeRow
namespace Go.Proofs.YtnfijelcnemgbaaDoor
open Go.RowKit
set_option linter.unusedVariables false

@[reducible] def lineV (i : Nat) : Value := .agg #[.int .i64 (lineU i), .int .i64 (lineG i), .int .i64 (i : Nat)]
theorem cells_five {W w' : World} {p0 p1 p2 p3 p4 : Addr} {a0 a1 a2 a3 a4 : Value} (g : Grew W w') (h : W.cell? p0 = some a0 ∧ W.cell? p1 = some a1 ∧ W.cell? p2 = some a2 ∧ W.cell? p3 = some a3 ∧ W.cell? p4 = some a4) :
    w'.cell? p0 = some a0 ∧ w'.cell? p1 = some a1 ∧ w'.cell? p2 = some a2 ∧ w'.cell? p3 = some a3 ∧ w'.cell? p4 = some a4 :=
  ⟨(g.cell (World.block_lt_of_cell? W _ h.1)).trans h.1, (g.cell (World.block_lt_of_cell? W _ h.2.1)).trans h.2.1, (g.cell (World.block_lt_of_cell? W _ h.2.2.1)).trans h.2.2.1,
   (g.cell (World.block_lt_of_cell? W _ h.2.2.2.1)).trans h.2.2.2.1, (g.cell (World.block_lt_of_cell? W _ h.2.2.2.2)).trans h.2.2.2.2⟩

/-- A closure over a line: told at each line from there on. -/
def Above (g : Nat) (cb : Array Value) (c : Nat) (w : World) : Prop := ∀ (i : Nat) w', i < 19 → Grew w w' → Calls Tryd.prog g (#[lineV i] ++ cb) w' fun e w'' => e = .returned (.bool (decide (c ≤ i))) ∧ Grew w' w''
theorem Above.grew {g : Nat} {cb : Array Value} {c : Nat} {w w' : World} (h : Above g cb c w) (k : Grew w w') : Above g cb c w' := fun i W hi hW => h i W hi (k.trans hW)

set_option maxRecDepth 1000000 in
set_option maxHeartbeats 2000000 in
theorem leap_firstLine1 (g : Nat) (cb : Array Value) (c b cap i : Nat) (p1 p2 : Addr) (w : World) (eg : ∀ args w, (callFunc g args).run Tryd.prog w = .ok (.enter g args) w) (hi : i < 19)
    (hA : Above g cb c w) (hL : Lines w b) (c1 : w.cell? p1 = some (.func (.func g) #[] cb)) (c2 : w.cell? p2 = some (.slice (some ⟨b, 0, none⟩) 19 cap)) :
    Calls Tryd.prog 28 #[.int .i64 i, .pointer (some p1), .pointer (some p2)] w fun e w' => e = .returned (.bool (decide (c ≤ i))) ∧ Grew w w' := by
  have HA := Lib.hid hA
  obtain ⟨d0, d1, d2⟩ := hL.2 i hi
  clear hA hL
  have HX : ∀ w', Grew w w' → Hid (Calls Tryd.prog g (#[.agg #[.int .i64 (lineU i), .int .i64 (lineG i), .int .i64 (i : Nat)]] ++ cb) w' fun e w'' => e = .returned (.bool (decide (c ≤ i))) ∧ Grew w' w'') := fun w' hw => Lib.hid (HA.out i w' hi hw)
  generalize lineU i = u at *
  generalize lineG i = gg at *
  have i0 : (0 : Int) ≤ i := by omega
  have i19 : (i : Int) < 19 := by omega
  generalize decide (c ≤ i) = r at *
  clear HA
  go_enter Tryd.func28, Tryd.ntmps28
  go_wp2_with fail
  have G : Grew w w.drew := (Grew.refl w).drew
  go_region_held3 (fun w' => w'.cell? p1 = some (.func (.func g) #[] cb) ∧ w'.cell? p2 = some (.slice (some ⟨b, 0, none⟩) 19 cap) ∧ w'.cell? ⟨b, i * 3, none⟩ = some (.int .i64 u) ∧ w'.cell? ⟨b, i * 3 + 1, none⟩ = some (.int .i64 gg) ∧ w'.cell? ⟨b, i * 3 + 2, none⟩ = some (.int .i64 (i : Nat))) (exact cells_five G ⟨c1, c2, d0, d1, d2⟩) ((go_at_fn g; refine (HX _ G).out.mono ?_; rintro e w' ⟨rfl, hg⟩; replace G := G.trans hg; clear hg))
  go_wp2_with fail
  go_ret
  exact ⟨rfl, G⟩

theorem boxes_of (w : World) (x y : Value) (E F : TypeId) : ((w.alloc (.cells #[x] E)).alloc (.cells #[y] F)).cell? ⟨w.heap.size, 0, none⟩ = some x ∧ ((w.alloc (.cells #[x] E)).alloc (.cells #[y] F)).cell? ⟨w.heap.size + 1, 0, none⟩ = some y ∧ Grew w ((w.alloc (.cells #[x] E)).alloc (.cells #[y] F)) := by
  refine ⟨?_, ?_, ((Grew.refl _).alloc _).alloc _⟩ <;> simp [go_sem]
theorem enters_firstLine1 : ∀ args w, (callFunc 28 args).run Tryd.prog w = .ok (.enter 28 args) w := enters_of Tryd.func28 (by kernel_rfl) rfl

set_option maxHeartbeats 1000000 in
theorem leap_firstLine (g : Nat) (cb : Array Value) (c b cap : Nat) (w : World) (eg : ∀ args w, (callFunc g args).run Tryd.prog w = .ok (.enter g args) w)
    (hA : Above g cb c w) (hL : Lines w b) (hc : c ≤ 19) :
    Calls Tryd.prog 20 #[.slice (some ⟨b, 0, none⟩) 19 cap, .func (.func g) #[] cb] w fun e w' => e = .returned (.int .i64 c) ∧ Grew w w' := by
  have HA := Lib.hid hA
  have HL := Lib.hid hL
  have EG := Lib.hid eg
  clear hA hL eg
  go_enter Tryd.func20, Tryd.ntmps20
  go_wp2_with fail
  obtain ⟨k1, k2, G⟩ := boxes_of w (.slice (some ⟨b, 0, none⟩) 19 cap) (.func (.func g) #[] cb) 34 39
  have HS := fun w' (hw : Grew ((w.alloc (.cells #[.slice (some ⟨b, 0, none⟩) 19 cap] 34)).alloc (.cells #[.func (.func g) #[] cb] 39)) w') (i : Nat) (hi : i < 19) =>
    leap_firstLine1 g cb c b cap i ⟨w.heap.size + 1, 0, none⟩ ⟨w.heap.size, 0, none⟩ w' EG.out hi (HA.out.grew (G.trans hw)) (HL.out.grew (G.trans hw)) ((hw.cell (World.block_lt_of_cell? _ _ k2)).trans k2) ((hw.cell (World.block_lt_of_cell? _ _ k1)).trans k1)
  have H := sort_Search 28 #[.pointer (some ⟨w.heap.size + 1, 0, none⟩), .pointer (some ⟨w.heap.size, 0, none⟩)] 19 c _ enters_firstLine1 (by omega) hc (fun i w' hi hw => HS w' hw i hi)
  clear HS k1 k2
  refine H.mono ?_
  rintro e w' ⟨rfl, g1⟩
  replace G := G.trans g1
  clear g1 H
  go_wp2_with fail
  go_ret
  exact ⟨rfl, G⟩

set_option maxRecDepth 1000000 in
set_option maxHeartbeats 1000000 in
theorem leap_lineAhead (g : Nat) (cb : Array Value) (k : Nat) (w : World) (eg : ∀ args w, (callFunc g args).run Tryd.prog w = .ok (.enter g args) w) (ht : Tab w)
    (hT : ∀ w, Tab w → Calls Tryd.prog 17 #[] w (TableFresh w))
    (hA : Above g cb (k + 1) w) (hk : k ≤ 18) :
    Calls Tryd.prog 18 #[.func (.func g) #[] cb] w fun e w' => e = .returned (.agg #[.int .i64 (lineU k), .int .i64 (lineG k), .int .i64 (k : Nat)]) ∧ Grew w w' := by
  have HA := Lib.hid hA
  have HT := fun w ht => Lib.hid (hT w ht)
  have EG := Lib.hid eg
  clear hA hT eg
  go_enter Tryd.func18, Tryd.ntmps18
  go_wp2_with fail
  obtain ⟨W, hW⟩ : ∃ W, w.alloc (.cells #[.int .i64 0, .int .i64 0, .int .i64 0] 37) = W := ⟨_, rfl⟩
  have G : Grew w W := by rw [← hW]; exact (Grew.refl _).alloc _
  have n0 : W.cell? ⟨w.heap.size, 0, none⟩ = some (.int .i64 0) ∧ W.cell? ⟨w.heap.size, 1, none⟩ = some (.int .i64 0) ∧ W.cell? ⟨w.heap.size, 2, none⟩ = some (.int .i64 0) ∧ W.frozen? ⟨w.heap.size, 0, none⟩ = false ∧ W.frozen? ⟨w.heap.size, 1, none⟩ = false ∧ W.frozen? ⟨w.heap.size, 2, none⟩ = false := by
    rw [← hW]; refine ⟨?_, ?_, ?_, ?_, ?_, ?_⟩ <;> simp [go_sem]
  rw [hW]
  clear hW
  refine (HT W (ht.grew G)).out.mono ?_
  rintro e w1 ⟨b, c, rfl, hb, hL, hF, g1⟩
  clear hF hb HT
  have G1 := G.trans g1
  have HL := Lib.hid hL
  clear hL
  go_wp2_with fail
  refine (leap_firstLine g cb (k + 1) b c w1 EG.out (HA.out.grew G1) HL.out (by omega)).mono ?_
  rintro e w2 ⟨rfl, g2⟩
  obtain ⟨d0, d1, d2⟩ := (HL.out.grew g2).2 k (by omega)
  have lt0 : w.heap.size < W.heap.size := World.block_lt_of_cell? W _ n0.1
  obtain ⟨z0, z1, z2, f0, f1, f2⟩ : w2.cell? ⟨w.heap.size, 0, none⟩ = some (.int .i64 0) ∧ w2.cell? ⟨w.heap.size, 1, none⟩ = some (.int .i64 0) ∧ w2.cell? ⟨w.heap.size, 2, none⟩ = some (.int .i64 0) ∧ w2.frozen? ⟨w.heap.size, 0, none⟩ = false ∧ w2.frozen? ⟨w.heap.size, 1, none⟩ = false ∧ w2.frozen? ⟨w.heap.size, 2, none⟩ = false := by
    have gg := g1.trans g2
    refine ⟨(gg.cell (p := ⟨_, 0, none⟩) lt0).trans n0.1, (gg.cell (p := ⟨_, 1, none⟩) lt0).trans n0.2.1, (gg.cell (p := ⟨_, 2, none⟩) lt0).trans n0.2.2.1, (gg.frozen (p := ⟨_, 0, none⟩) lt0).trans n0.2.2.2.1, (gg.frozen (p := ⟨_, 1, none⟩) lt0).trans n0.2.2.2.2.1, (gg.frozen (p := ⟨_, 2, none⟩) lt0).trans n0.2.2.2.2.2⟩
  replace G := G1.trans g2
  clear n0 lt0 g1 g2 G1 HL HA EG
  obtain ⟨u, HU⟩ : ∃ u, Hid (lineU k = u) := ⟨_, Lib.hid rfl⟩
  obtain ⟨gg, HG⟩ : ∃ u, Hid (lineG k = u) := ⟨_, Lib.hid rfl⟩
  rw [HU.out] at d0
  rw [HG.out] at d1
  go_wp2_with fail
  refine bodyPost_ret (by simp [results, Tryd.results18, go_sem, z0, z1, z2]; try rfl) rfl ?_
  exact ⟨by rw [HU.out, HG.out], ((G.setCell (Nat.le_refl _) _).setCell (Nat.le_refl _) _).setCell (Nat.le_refl _) _⟩
end Go.Proofs.YtnfijelcnemgbaaDoor
