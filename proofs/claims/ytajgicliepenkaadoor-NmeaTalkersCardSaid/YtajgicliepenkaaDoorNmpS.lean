/-
  The program's sentences: Parse, where there is no kind, or too few or too many fields.
-/
import Derived.Test.YtajgicliepenkaaDoorNmpR
import Derived.Test.YtajgicliepenkaaDoorCellsW
import Derived.Test.YtajgicliepenkaaDoorFlsD
namespace Go.Proofs.YtajgicliepenkaaDoor
open Go.RowKit
set_option linter.unusedVariables false

theorem told_one (F : Told) : F.cells.all (·.oneCell') = true := by kernel_rfl
theorem told_size (F : Told) : F.cells.size = 25 := rfl
theorem fix_zero : (∀ w, (zeroValue 26).run Tryd.prog w = .ok (.agg (Told.cells {})) w) ∧ (Tryd.prog.info? 26).map (·.size) = some 25 := zero_of_info (by kernel_rfl)
theorem fix_built0 : Tryd.prog.built 26 [] = some (Told.cells {}) := by kernel_rfl
theorem fix_built1 (n : Nat) : Tryd.prog.built 26 [(0, .int .u8 (n : Nat))] = some (Told.cells { kind := n }) := by kernel_rfl
theorem zero_cells {w : World} {b : Nat} (h : w.heap[b]? = some (.cells (Told.cells {}) 26)) : (w.cell? ⟨b, 0, none⟩ = some (.int .u8 0) ∧ w.cell? ⟨b, 1, none⟩ = some (.bool false) ∧ w.cell? ⟨b, 2, none⟩ = some (.bool false) ∧ w.cell? ⟨b, 3, none⟩ = some (.bool false) ∧ w.cell? ⟨b, 4, none⟩ = some (.bool false) ∧ w.cell? ⟨b, 5, none⟩ = some (.int .i64 0) ∧ w.cell? ⟨b, 6, none⟩ = some (.int .i64 0) ∧ w.cell? ⟨b, 7, none⟩ = some (.int .i64 0) ∧ w.cell? ⟨b, 8, none⟩ = some (.bool false) ∧ w.cell? ⟨b, 9, none⟩ = some (.int .i64 0) ∧ w.cell? ⟨b, 10, none⟩ = some (.int .i64 0) ∧ w.cell? ⟨b, 11, none⟩ = some (.int .i64 0) ∧ w.cell? ⟨b, 12, none⟩ = some (.int .i64 0) ∧ w.cell? ⟨b, 13, none⟩ = some (.int .i64 0) ∧ w.cell? ⟨b, 14, none⟩ = some (.int .i64 0) ∧ w.cell? ⟨b, 15, none⟩ = some (.int .i64 0) ∧ w.cell? ⟨b, 16, none⟩ = some (.int .i64 0) ∧ w.cell? ⟨b, 17, none⟩ = some (.int .i64 0) ∧ w.cell? ⟨b, 18, none⟩ = some (.int .i64 0) ∧ w.cell? ⟨b, 19, none⟩ = some (.int .i64 0) ∧ w.cell? ⟨b, 20, none⟩ = some (.int .i64 0) ∧ w.cell? ⟨b, 21, none⟩ = some (.int .i64 0) ∧ w.cell? ⟨b, 22, none⟩ = some (.int .i64 0) ∧ w.cell? ⟨b, 23, none⟩ = some (.int .i64 0) ∧ w.cell? ⟨b, 24, none⟩ = some (.int .i64 0)) ∧ w.frozen? ⟨b, 0, none⟩ = false ∧ w.frozen? ⟨b, 1, none⟩ = false ∧ w.frozen? ⟨b, 2, none⟩ = false ∧ w.frozen? ⟨b, 3, none⟩ = false ∧ w.frozen? ⟨b, 4, none⟩ = false ∧ w.frozen? ⟨b, 5, none⟩ = false ∧ w.frozen? ⟨b, 6, none⟩ = false ∧ w.frozen? ⟨b, 7, none⟩ = false ∧ w.frozen? ⟨b, 8, none⟩ = false ∧ w.frozen? ⟨b, 9, none⟩ = false ∧ w.frozen? ⟨b, 10, none⟩ = false ∧ w.frozen? ⟨b, 11, none⟩ = false ∧ w.frozen? ⟨b, 12, none⟩ = false ∧ w.frozen? ⟨b, 13, none⟩ = false ∧ w.frozen? ⟨b, 14, none⟩ = false ∧ w.frozen? ⟨b, 15, none⟩ = false ∧ w.frozen? ⟨b, 16, none⟩ = false ∧ w.frozen? ⟨b, 17, none⟩ = false ∧ w.frozen? ⟨b, 18, none⟩ = false ∧ w.frozen? ⟨b, 19, none⟩ = false ∧ w.frozen? ⟨b, 20, none⟩ = false ∧ w.frozen? ⟨b, 21, none⟩ = false ∧ w.frozen? ⟨b, 22, none⟩ = false ∧ w.frozen? ⟨b, 23, none⟩ = false ∧ w.frozen? ⟨b, 24, none⟩ = false := by
  refine ⟨⟨?_, ?_, ?_, ?_, ?_, ?_, ?_, ?_, ?_, ?_, ?_, ?_, ?_, ?_, ?_, ?_, ?_, ?_, ?_, ?_, ?_, ?_, ?_, ?_, ?_⟩, ?_, ?_, ?_, ?_, ?_, ?_, ?_, ?_, ?_, ?_, ?_, ?_, ?_, ?_, ?_, ?_, ?_, ?_, ?_, ?_, ?_, ?_, ?_, ?_, ?_⟩
  all_goals first | (simp [World.frozen?, h]; done) | (simp [World.cell?, h]; rfl)
/-- Nothing is written over nothing, cell by cell. -/
def zset (w : World) (b : Nat) : World := (((((((((((((((((((((((((w.setCell ⟨b, 0, none⟩ (.int .u8 0)).setCell ⟨b, 1, none⟩ (.bool false)).setCell ⟨b, 2, none⟩ (.bool false)).setCell ⟨b, 3, none⟩ (.bool false)).setCell ⟨b, 4, none⟩ (.bool false)).setCell ⟨b, 5, none⟩ (.int .i64 0)).setCell ⟨b, 6, none⟩ (.int .i64 0)).setCell ⟨b, 7, none⟩ (.int .i64 0)).setCell ⟨b, 8, none⟩ (.bool false)).setCell ⟨b, 9, none⟩ (.int .i64 0)).setCell ⟨b, 10, none⟩ (.int .i64 0)).setCell ⟨b, 11, none⟩ (.int .i64 0)).setCell ⟨b, 12, none⟩ (.int .i64 0)).setCell ⟨b, 13, none⟩ (.int .i64 0)).setCell ⟨b, 14, none⟩ (.int .i64 0)).setCell ⟨b, 15, none⟩ (.int .i64 0)).setCell ⟨b, 16, none⟩ (.int .i64 0)).setCell ⟨b, 17, none⟩ (.int .i64 0)).setCell ⟨b, 18, none⟩ (.int .i64 0)).setCell ⟨b, 19, none⟩ (.int .i64 0)).setCell ⟨b, 20, none⟩ (.int .i64 0)).setCell ⟨b, 21, none⟩ (.int .i64 0)).setCell ⟨b, 22, none⟩ (.int .i64 0)).setCell ⟨b, 23, none⟩ (.int .i64 0)).setCell ⟨b, 24, none⟩ (.int .i64 0))
set_option maxRecDepth 100000 in
theorem zset_far (w : World) (b : Nat) : Far (fun k => k = b) w (zset w b) := by
  unfold zset
  iterate 25 refine Far.setCell (F := fun k => k = b) ?_ rfl _
  exact Far.refl _ _
set_option maxRecDepth 100000 in
theorem zset_heap {w : World} {b : Nat} (h : w.heap[b]? = some (.cells (Told.cells {}) 26)) : (zset w b).heap[b]? = some (.cells (Told.cells {}) 26) := by
  have step : ∀ {v : World} (k : Nat) (x : Value), v.heap[b]? = some (.cells (Told.cells {}) 26) → (Told.cells {}).setIfInBounds k x = Told.cells {} → (v.setCell ⟨b, k, none⟩ x).heap[b]? = some (.cells (Told.cells {}) 26) := fun k x hv hx => by
    rw [heap_setCell_cells hv, hx]
  unfold zset
  iterate 25 refine step _ _ ?_ rfl
  exact h
/-- What a Parse has told. -/
def ParseT (s : ByteArray) (w : World) (e : Ending) (w' : World) : Prop := e = .returned (.tuple #[(parseOf s).1.value, .int .i64 ((parseOf s).2 : Nat)]) ∧ Grew w w'
theorem parts_first (s : ByteArray) : ∃ x, (partsB s)[0]? = some x := by
  have h := partsB_pos s
  exact ⟨_, List.getElem?_eq_getElem h⟩
theorem newZ (w : World) : ∃ W, w.alloc (.cells (Told.cells {}) 26) = W ∧ Grew w W ∧ W.heap.size = w.heap.size + 1 ∧ W.heap[w.heap.size]? = some (.cells (Told.cells {}) 26) :=
  ⟨_, rfl, (Grew.refl w).alloc _, by simp, heap_alloc_new w _⟩
theorem parse_zero {s : ByteArray} {e : Nat} (h : parseOf s = ({}, e)) {w W V : World} {b : Nat} (g : Grew w V) (hb : w.heap.size ≤ b) : ParseT s w (.returned (.tuple #[.agg (Told.cells {}), .int .i64 (e : Nat)])) (V.setRow b (Told.cells {})) := by
  refine ⟨by rw [h]; rfl, Far.grew (far_setRow V b _) g (fun k hk => by have hk' : k = b := hk; omega)⟩
set_option maxHeartbeats 4000000 in
set_option maxRecDepth 100000 in
theorem parse_none (s x0 : ByteArray) (w : World) (hs : s.size ≤ 1000) (h0 : (partsB s)[0]? = some x0) (hk : kindOfN (nat x0) = 0) : Calls Tryd.prog 5 #[.string s] w (ParseT s w) := by
  have hans : Hid (parseOf s = ({}, 7)) := by
    show _ = _
    unfold parseOf fixOf fieldsOf
    rw [if_pos]
    rw [List.getD_eq_getElem?_getD, List.getElem?_map, h0]
    exact hk
  obtain ⟨W, hW, gW, sW, zW⟩ := newZ w
  have hps := partsB_pos s
  have hx := partsB_size s x0 (List.mem_of_getElem? h0)
  have HS := fun w => Lib.hid (fld_Split s w hs)
  have HK : ∀ w, Hid (Calls Tryd.prog 8 #[.string x0] w fun e w' => e = .returned (.tuple #[zeroKind, .bool false]) ∧ Grew w w') := fun w => Lib.hid ((nk_kindOf x0 w (by omega)).mono fun e w' h => by
    rcases h with ⟨g, ⟨_, he⟩ | ⟨k, M, _, h2, _⟩⟩
    · exact ⟨he, g⟩
    · rw [hk] at h2; omega)
  unfold Parted at HS
  unfold zeroKind at HK
  have HZ := Lib.hid fix_zero.1
  have HI := Lib.hid fix_zero.2
  have HB := Lib.hid fix_built0
  have HPZ := fun V g => Lib.hid (parse_zero (w := w) (W := w) (V := V) (b := w.heap.size) hans.out g (Nat.le_refl _))
  have HC := Lib.hid (told_size {})
  have HO := Lib.hid (told_one {})
  obtain ⟨Z, hZ⟩ : ∃ Z, Told.cells {} = Z := ⟨_, rfl⟩
  rw [hZ] at HZ HB hW zW HPZ HC HO
  have HZZ := Lib.hid hZ
  clear hZ hs
  go_enter Tryd.func5, Tryd.ntmps5
  go_upto_region 1 with (refine wpList_alloc_as rfl 26 rfl Z HZ.out ?_)
  go_upto_region 2 with (first | (go_at_call 7; refine (HS _).out.mono ?_; rintro e w1 ⟨_, rfl, ⟨b1, c1, rfl, k1, l1, m1⟩, g1⟩))
  have y0 := m1 0 x0 h0
  obtain ⟨n, hn⟩ : ∃ n, (partsB s).length = n := ⟨_, rfl⟩
  rw [hn] at hps k1 ⊢
  have n0 : (0 : Int) < n := by omega
  have n1 : (0 : Int) < c1 := by omega
  have G1 := Lib.hid (gW.trans g1)
  have z1 := (g1.below.block _ (by omega)).trans zW
  have s1 : w.heap.size < w1.heap.size := by have := g1.size; omega
  clear hn hps k1 m1 HS g1 hW zW gW h0 hk hx
  go_upto_region 4 with (first | (go_at_call 8; refine (HK _).out.mono ?_; rintro e w2 ⟨rfl, g2⟩))
  have z2 := ((g2.trans ((Grew.refl w2).alloc (.cells #[.int .u8 0, .int .i64 0, .int .i64 0, .slice none 0 0, .nilFunc] 38))).below.block _ s1).trans z1
  have G2 := Lib.hid (G1.out.trans (g2.trans ((Grew.refl w2).alloc (.cells #[.int .u8 0, .int .i64 0, .int .i64 0, .slice none 0 0, .nilFunc] 38))))
  generalize w2.alloc (.cells #[.int .u8 0, .int .i64 0, .int .i64 0, .slice none 0 0, .nilFunc] 38) = V at *
  go_wp2_with (first | (refine wpList_build_as rfl 26 _ rfl Z [] rfl HB.out ?_) | (refine wpList_store_at rfl 26 _ _ rfl w.heap.size Z Z 26 z2 rfl rfl (by rw [HI.out, HC.out]) rfl HO.out ?_))
  refine bodyPost_ret (results_cell_tmp rfl _ _ w.heap.size Z 26 _ rfl (setRow_heap V w.heap.size Z Z _ _ z2) Tryd.underlying26 rfl (by rw [HI.out, HC.out])) rfl ?_
  exact (HPZ V G2.out).out
end Go.Proofs.YtajgicliepenkaaDoor
