/-
  The program's sentences: Parse, where there is no kind, or too few or too many fields.
  The program's sentences: Parse, of a kind that is known.
  The program's sentences: GLL, VTG, RMC.
  The program's sentences: GGA.
  The program's sentences: GSV.
  The program's sentences: GSA.
-/
import Derived.Test.YtnhigfkhdmkoeaaGreatDoorP10
import Derived.Test.YtnhigfkhdmkoeaaGreatDoorP02
import Derived.Test.YtnhigfkhdmkoeaaGreatDoorP08
import Derived.StillTailTactics
import Derived.Deep.RegionHeld3
import Derived.Deep.DeepCutAuto
import Derived.LoopTactic

namespace Go.Proofs.YtnhigfkhdmkoeaaGreatDoor
open Go.RowKit
set_option linter.unusedVariables false

/- The program's sentences: Parse, where there is no kind, or too few or too many fields. -/
theorem told_one (F : Told) : F.cells.all (·.oneCell') = true := by kernel_rfl
theorem told_size (F : Told) : F.cells.size = 25 := rfl
theorem fix_zero : (∀ w, (zeroValue 42).run Tryz.prog w = .ok (.agg (Told.cells {})) w) ∧ (Tryz.prog.info? 42).map (·.size) = some 25 := zero_of_info (by kernel_rfl)
theorem fix_built0 : Tryz.prog.built 42 [] = some (Told.cells {}) := by kernel_rfl
theorem fix_built1 (n : Nat) : Tryz.prog.built 42 [(0, .int .u8 (n : Nat))] = some (Told.cells { kind := n }) := by kernel_rfl
theorem zero_cells {w : World} {b : Nat} (h : w.heap[b]? = some (.cells (Told.cells {}) 42)) : (w.cell? ⟨b, 0, none⟩ = some (.int .u8 0) ∧ w.cell? ⟨b, 1, none⟩ = some (.bool false) ∧ w.cell? ⟨b, 2, none⟩ = some (.bool false) ∧ w.cell? ⟨b, 3, none⟩ = some (.bool false) ∧ w.cell? ⟨b, 4, none⟩ = some (.bool false) ∧ w.cell? ⟨b, 5, none⟩ = some (.int .i64 0) ∧ w.cell? ⟨b, 6, none⟩ = some (.int .i64 0) ∧ w.cell? ⟨b, 7, none⟩ = some (.int .i64 0) ∧ w.cell? ⟨b, 8, none⟩ = some (.bool false) ∧ w.cell? ⟨b, 9, none⟩ = some (.int .i64 0) ∧ w.cell? ⟨b, 10, none⟩ = some (.int .i64 0) ∧ w.cell? ⟨b, 11, none⟩ = some (.int .i64 0) ∧ w.cell? ⟨b, 12, none⟩ = some (.int .i64 0) ∧ w.cell? ⟨b, 13, none⟩ = some (.int .i64 0) ∧ w.cell? ⟨b, 14, none⟩ = some (.int .i64 0) ∧ w.cell? ⟨b, 15, none⟩ = some (.int .i64 0) ∧ w.cell? ⟨b, 16, none⟩ = some (.int .i64 0) ∧ w.cell? ⟨b, 17, none⟩ = some (.int .i64 0) ∧ w.cell? ⟨b, 18, none⟩ = some (.int .i64 0) ∧ w.cell? ⟨b, 19, none⟩ = some (.int .i64 0) ∧ w.cell? ⟨b, 20, none⟩ = some (.int .i64 0) ∧ w.cell? ⟨b, 21, none⟩ = some (.int .i64 0) ∧ w.cell? ⟨b, 22, none⟩ = some (.int .i64 0) ∧ w.cell? ⟨b, 23, none⟩ = some (.int .i64 0) ∧ w.cell? ⟨b, 24, none⟩ = some (.int .i64 0)) ∧ w.frozen? ⟨b, 0, none⟩ = false ∧ w.frozen? ⟨b, 1, none⟩ = false ∧ w.frozen? ⟨b, 2, none⟩ = false ∧ w.frozen? ⟨b, 3, none⟩ = false ∧ w.frozen? ⟨b, 4, none⟩ = false ∧ w.frozen? ⟨b, 5, none⟩ = false ∧ w.frozen? ⟨b, 6, none⟩ = false ∧ w.frozen? ⟨b, 7, none⟩ = false ∧ w.frozen? ⟨b, 8, none⟩ = false ∧ w.frozen? ⟨b, 9, none⟩ = false ∧ w.frozen? ⟨b, 10, none⟩ = false ∧ w.frozen? ⟨b, 11, none⟩ = false ∧ w.frozen? ⟨b, 12, none⟩ = false ∧ w.frozen? ⟨b, 13, none⟩ = false ∧ w.frozen? ⟨b, 14, none⟩ = false ∧ w.frozen? ⟨b, 15, none⟩ = false ∧ w.frozen? ⟨b, 16, none⟩ = false ∧ w.frozen? ⟨b, 17, none⟩ = false ∧ w.frozen? ⟨b, 18, none⟩ = false ∧ w.frozen? ⟨b, 19, none⟩ = false ∧ w.frozen? ⟨b, 20, none⟩ = false ∧ w.frozen? ⟨b, 21, none⟩ = false ∧ w.frozen? ⟨b, 22, none⟩ = false ∧ w.frozen? ⟨b, 23, none⟩ = false ∧ w.frozen? ⟨b, 24, none⟩ = false := by
  refine ⟨⟨?_, ?_, ?_, ?_, ?_, ?_, ?_, ?_, ?_, ?_, ?_, ?_, ?_, ?_, ?_, ?_, ?_, ?_, ?_, ?_, ?_, ?_, ?_, ?_, ?_⟩, ?_, ?_, ?_, ?_, ?_, ?_, ?_, ?_, ?_, ?_, ?_, ?_, ?_, ?_, ?_, ?_, ?_, ?_, ?_, ?_, ?_, ?_, ?_, ?_, ?_⟩
  all_goals first | (simp [World.frozen?, h]; done) | (simp [World.cell?, h]; rfl)
/-- Nothing is written over nothing, cell by cell. -/
def zset (w : World) (b : Nat) : World := (((((((((((((((((((((((((w.setCell ⟨b, 0, none⟩ (.int .u8 0)).setCell ⟨b, 1, none⟩ (.bool false)).setCell ⟨b, 2, none⟩ (.bool false)).setCell ⟨b, 3, none⟩ (.bool false)).setCell ⟨b, 4, none⟩ (.bool false)).setCell ⟨b, 5, none⟩ (.int .i64 0)).setCell ⟨b, 6, none⟩ (.int .i64 0)).setCell ⟨b, 7, none⟩ (.int .i64 0)).setCell ⟨b, 8, none⟩ (.bool false)).setCell ⟨b, 9, none⟩ (.int .i64 0)).setCell ⟨b, 10, none⟩ (.int .i64 0)).setCell ⟨b, 11, none⟩ (.int .i64 0)).setCell ⟨b, 12, none⟩ (.int .i64 0)).setCell ⟨b, 13, none⟩ (.int .i64 0)).setCell ⟨b, 14, none⟩ (.int .i64 0)).setCell ⟨b, 15, none⟩ (.int .i64 0)).setCell ⟨b, 16, none⟩ (.int .i64 0)).setCell ⟨b, 17, none⟩ (.int .i64 0)).setCell ⟨b, 18, none⟩ (.int .i64 0)).setCell ⟨b, 19, none⟩ (.int .i64 0)).setCell ⟨b, 20, none⟩ (.int .i64 0)).setCell ⟨b, 21, none⟩ (.int .i64 0)).setCell ⟨b, 22, none⟩ (.int .i64 0)).setCell ⟨b, 23, none⟩ (.int .i64 0)).setCell ⟨b, 24, none⟩ (.int .i64 0))
set_option maxRecDepth 100000 in
theorem zset_far (w : World) (b : Nat) : Far (fun k => k = b) w (zset w b) := by
  unfold zset
  iterate 25 refine Far.setCell (F := fun k => k = b) ?_ rfl _
  exact Far.refl _ _
set_option maxRecDepth 100000 in
theorem zset_heap {w : World} {b : Nat} (h : w.heap[b]? = some (.cells (Told.cells {}) 42)) : (zset w b).heap[b]? = some (.cells (Told.cells {}) 42) := by
  have step : ∀ {v : World} (k : Nat) (x : Value), v.heap[b]? = some (.cells (Told.cells {}) 42) → (Told.cells {}).setIfInBounds k x = Told.cells {} → (v.setCell ⟨b, k, none⟩ x).heap[b]? = some (.cells (Told.cells {}) 42) := fun k x hv hx => by
    rw [heap_setCell_cells hv, hx]
  unfold zset
  iterate 25 refine step _ _ ?_ rfl
  exact h
/-- What a Parse has told. -/
def ParseT (s : ByteArray) (w : World) (e : Ending) (w' : World) : Prop := e = .returned (.tuple #[(parseOf s).1.value, .int .i64 ((parseOf s).2 : Nat)]) ∧ Grew w w'
theorem parts_first (s : ByteArray) : ∃ x, (partsB s)[0]? = some x := by
  have h := partsB_pos s
  exact ⟨_, List.getElem?_eq_getElem h⟩
theorem newZ (w : World) : ∃ W, w.alloc (.cells (Told.cells {}) 42) = W ∧ Grew w W ∧ W.heap.size = w.heap.size + 1 ∧ W.heap[w.heap.size]? = some (.cells (Told.cells {}) 42) :=
  ⟨_, rfl, (Grew.refl w).alloc _, by simp, heap_alloc_new w _⟩
theorem parse_zero {s : ByteArray} {e : Nat} (h : parseOf s = ({}, e)) {w W V : World} {b : Nat} (g : Grew w V) (hb : w.heap.size ≤ b) : ParseT s w (.returned (.tuple #[.agg (Told.cells {}), .int .i64 (e : Nat)])) (V.setRow b (Told.cells {})) := by
  refine ⟨by rw [h]; rfl, Far.grew (far_setRow V b _) g (fun k hk => by have hk' : k = b := hk; omega)⟩
set_option maxHeartbeats 4000000 in
set_option maxRecDepth 100000 in
theorem parse_none (s x0 : ByteArray) (w : World) (hs : s.size ≤ 2000) (h0 : (partsB s)[0]? = some x0) (hk : kindOfN (nat x0) = 0) : Calls Tryz.prog 18 #[.string s] w (ParseT s w) := by
  have hans : Hid (parseOf s = ({}, 7)) := by
    show _ = _
    unfold parseOf fixOf fieldsOf
    rw [if_pos]
    rw [List.getD_eq_getElem?_getD, List.getElem?_map, h0]
    exact hk
  obtain ⟨W, hW, gW, sW, zW⟩ := newZ w
  have hps := partsB_pos s
  have hx := partsB_size s x0 (List.mem_of_getElem? h0)
  have HS := fun w => Lib.hid (fld_Split s w hs)
  have HK : ∀ w, Hid (Calls Tryz.prog 49 #[.string x0] w fun e w' => e = .returned (.tuple #[zeroKind, .bool false]) ∧ Grew w w') := fun w => Lib.hid ((nk_kindOf x0 w (by omega)).mono fun e w' h => by
    rcases h with ⟨g, ⟨_, he⟩ | ⟨k, M, _, h2, _⟩⟩
    · exact ⟨he, g⟩
    · rw [hk] at h2; omega)
  unfold Parted at HS
  unfold zeroKind at HK
  have HZ := Lib.hid fix_zero.1
  have HI := Lib.hid fix_zero.2
  have HB := Lib.hid fix_built0
  have HPZ := fun V g => Lib.hid (parse_zero (w := w) (W := w) (V := V) (b := w.heap.size) hans.out g (Nat.le_refl _))
  have HC := Lib.hid (told_size {})
  have HO := Lib.hid (told_one {})
  obtain ⟨Z, hZ⟩ : ∃ Z, Told.cells {} = Z := ⟨_, rfl⟩
  rw [hZ] at HZ HB hW zW HPZ HC HO
  have HZZ := Lib.hid hZ
  clear hZ hs
  go_enter Tryz.func18, Tryz.ntmps18
  go_upto_region 1 with (refine wpList_alloc_as rfl 42 rfl Z HZ.out ?_)
  go_upto_region 2 with (first | (go_at_call 48; refine (HS _).out.mono ?_; rintro e w1 ⟨_, rfl, ⟨b1, c1, rfl, k1, l1, m1⟩, g1⟩))
  have y0 := m1 0 x0 h0
  obtain ⟨n, hn⟩ : ∃ n, (partsB s).length = n := ⟨_, rfl⟩
  rw [hn] at hps k1 ⊢
  have n0 : (0 : Int) < n := by omega
  have n1 : (0 : Int) < c1 := by omega
  have G1 := Lib.hid (gW.trans g1)
  have z1 := (g1.below.block _ (by omega)).trans zW
  have s1 : w.heap.size < w1.heap.size := by have := g1.size; omega
  clear hn hps k1 m1 HS g1 hW zW gW h0 hk hx
  go_upto_region 4 with (first | (go_at_call 49; refine (HK _).out.mono ?_; rintro e w2 ⟨rfl, g2⟩))
  have z2 := ((g2.trans ((Grew.refl w2).alloc (.cells #[.int .u8 0, .int .i64 0, .int .i64 0, .slice none 0 0, .nilFunc] 81))).below.block _ s1).trans z1
  have G2 := Lib.hid (G1.out.trans (g2.trans ((Grew.refl w2).alloc (.cells #[.int .u8 0, .int .i64 0, .int .i64 0, .slice none 0 0, .nilFunc] 81))))
  generalize w2.alloc (.cells #[.int .u8 0, .int .i64 0, .int .i64 0, .slice none 0 0, .nilFunc] 81) = V at *
  go_wp2_with (first | (refine wpList_build_as rfl 42 _ rfl Z [] rfl HB.out ?_) | (refine wpList_store_at rfl 42 _ _ rfl w.heap.size Z Z 42 z2 rfl rfl (by rw [HI.out, HC.out]) rfl HO.out ?_))
  refine bodyPost_ret (results_cell_tmp rfl _ _ w.heap.size Z 42 _ rfl (setRow_heap V w.heap.size Z Z _ _ z2) Tryz.underlying42 rfl (by rw [HI.out, HC.out])) rfl ?_
  exact (HPZ V G2.out).out
/- The program's sentences: Parse, of a kind that is known. -/
/-- Places of fields, in memory, wherever the error's variable will be. -/
def PlacesIn (w : World) (v : Value) (ps : List Nat) : Prop :=
  ∃ A c, v = .slice A ps.length c ∧ ps.length ≤ c ∧ (0 < ps.length → ∃ g, A = some ⟨g, 0, none⟩ ∧ g < w.heap.size ∧ ∀ (i : Nat) p, ps[i]? = some p → w.cell? ⟨g, i, none⟩ = some (.int .i64 (p : Nat)))
theorem PlacesIn.at_ {w w' : World} {v : Value} {ps : List Nat} (h : PlacesIn w v ps) (g : Grew w w') {E : Nat} (hE : w.heap.size ≤ E) : PlacesAt w' E v ps := by
  obtain ⟨A, c, rfl, hc, hr⟩ := h
  refine ⟨A, c, rfl, hc, fun h0 => ?_⟩
  obtain ⟨b, rfl, hb, hcell⟩ := hr h0
  exact ⟨b, rfl, Nat.lt_of_lt_of_le hb g.size, by omega, fun i p hp => (g.cell (p := ⟨b, i, none⟩) hb).trans (hcell i p hp)⟩
theorem needTo_fst (f : Nat → List Nat) (ps : List Nat) (s : Rs) : ∀ k, (needTo f ps k s).1 = s.1
  | 0 => rfl
  | k + 1 => needTo_fst f ps s k
/-- What a first field's kind is, as Parse takes it. -/
def KindIs (x0 : ByteArray) (num least most g : Nat) (ps : List Nat) : Prop :=
  ∀ w, Calls Tryz.prog 49 #[.string x0] w fun e w' => ∃ A m c, e = .returned (.tuple #[.agg #[.int .u8 (num : Nat), .int .i64 (least : Nat), .int .i64 (most : Nat), .slice A m c, .func (.func g) #[] #[]], .bool true]) ∧ PlacesIn w' (.slice A m c) ps ∧ Grew w w'
theorem parse_is {s x0 : ByteArray} (h0 : (partsB s)[0]? = some x0) {num : Nat} (hk : kindOfN (nat x0) = num) (hn : num ≠ 0) :
    parseOf s = if (partsB s).length - 1 < leastOf num then ({}, 4) else if mostOf num < (partsB s).length - 1 then ({}, 3) else if (readOf (fb (partsB s)) num ((partsB s).length - 1)).2 then ({}, 5) else ((readOf (fb (partsB s)) num ((partsB s).length - 1)).1, 0) := by
  have e : (fieldsOf s).getD 0 [] = nat x0 := by
    unfold fieldsOf
    rw [List.getD_eq_getElem?_getD, List.getElem?_map, h0]; rfl
  unfold parseOf fixOf
  rw [e, hk, if_neg hn]
  unfold fieldsOf
  rw [List.length_map]
  rfl
theorem newE (w : World) : ∃ W, w.alloc (.cells #[.int .i64 0] 31) = W ∧ Grew w W ∧ W.heap.size = w.heap.size + 1 ∧ W.heap[w.heap.size]? = some (.cells #[.int .i64 0] 31) :=
  newO w _
set_option maxHeartbeats 2000000 in
set_option maxRecDepth 100000 in
theorem parse_known (s x0 : ByteArray) (w : World) (hs : s.size ≤ 2000) (h0 : (partsB s)[0]? = some x0) (num least most g : Nat) (ps : List Nat) (rd : (Nat → List Nat) → Nat → Rs → Rs)
    (hk : kindOfN (nat x0) = num) (hnum : num ≠ 0 ∧ num < 256) (hl : leastOf num = least) (hm : mostOf num = most) (hb : 1 ≤ least ∧ least ≤ 100 ∧ most ≤ 100)
    (hps : ∀ (i : Nat) p, ps[i]? = some p → p ≤ least) (hpl : ps.length ≤ 100) (hrd : ∀ f n, readOf f num n = rd f n (needTo f ps ps.length ({ kind := num }, false)))
    (eg : ∀ args w, (callFunc g args).run Tryz.prog w = .ok (.enter g args) w) (hK : KindIs x0 num least most g ps)
    (hR : ∀ w S n c bs E X s', Rd w S n c bs E X s' → least + 1 ≤ n → s'.1.sats = 0 → Calls Tryz.prog g #[rv S n c E, .pointer (some ⟨X, 0, none⟩)] w (Rdx w S n c bs E X (rd (fb bs) (n - 1) s'))) :
    Calls Tryz.prog 18 #[.string s] w (ParseT s w) := by
  have hans := parse_is h0 hk hnum.1
  rw [hl, hm] at hans
  have HANS := Lib.hid hans
  clear hans hl hm
  obtain ⟨W, hW, gW, sW, zW⟩ := newZ w
  have hpos := partsB_pos s
  have hple : (partsB s).length ≤ 2001 := by have := partsB_le s; omega
  have hsm : ∀ (j : Nat) x, (partsB s)[j]? = some x → x.size ≤ 2000 := fun j x hx => Nat.le_trans (partsB_size s x (List.mem_of_getElem? hx)) hs
  have HS := fun w => Lib.hid (fld_Split s w hs)
  unfold KindIs at hK
  have HK := fun w => Lib.hid (hK w)
  unfold Parted at HS
  have HZ := Lib.hid fix_zero.1
  have HI := Lib.hid fix_zero.2
  have HB := Lib.hid fix_built0
  have HF := Lib.hid (fix_built1 num)
  have HPZ := fun e (he : parseOf s = ({}, e)) V g => Lib.hid (parse_zero (w := w) (W := w) (V := V) (b := w.heap.size) he g (Nat.le_refl _))
  have HC := Lib.hid (told_size {})
  have HO := Lib.hid (told_one {})
  have HCF := Lib.hid (told_size { kind := num })
  have HOF := Lib.hid (told_one { kind := num })
  obtain ⟨Z, hZ⟩ : ∃ Z, Told.cells {} = Z := ⟨_, rfl⟩
  rw [hZ] at HZ HB hW zW HPZ HC HO
  obtain ⟨F, hF⟩ : ∃ F, Told.cells { kind := num } = F := ⟨_, rfl⟩
  rw [hF] at HF HCF HOF
  have HFF := Lib.hid hF
  have HZZ := Lib.hid hZ
  clear hZ hs hF hK
  have HR := Lib.hid hR
  have HRD := Lib.hid hrd
  have HPS := Lib.hid hps
  clear hR hrd hps
  go_enter Tryz.func18, Tryz.ntmps18
  go_upto_region 1 with (refine wpList_alloc_as rfl 42 rfl Z HZ.out ?_)
  go_upto_region 2 with (first | (go_at_call 48; refine (HS _).out.mono ?_; rintro e w1 ⟨_, rfl, ⟨S, c1, rfl, k1, l1, m1⟩, g1⟩))
  have y0 := m1 0 x0 h0
  have M1 := Lib.hid m1
  have HSM := Lib.hid hsm
  obtain ⟨n, hn⟩ : ∃ n, (partsB s).length = n := ⟨_, rfl⟩
  rw [hn] at hpos hple k1 HANS ⊢
  have n0 : (0 : Int) < n := by omega
  have n1 : (0 : Int) < c1 := by omega
  have z1 := (g1.below.block _ (by omega)).trans zW
  have s1 : w.heap.size < w1.heap.size := by have := g1.size; omega
  have G1 := Lib.hid (gW.trans g1)
  have HLN := Lib.hid hn
  clear HS g1 hW zW gW sW h0 hk m1 hsm hn
  go_upto_region 5 with (first | (go_at_call 49; refine (HK _).out.mono ?_; rintro e w2 ⟨A, m, c, rfl, hP, g2⟩))
  have K3 := KAt.of (heap_alloc_new w2 (.cells #[.int .u8 (num : Nat), .int .i64 (least : Nat), .int .i64 (most : Nat), .slice A m c, .func (.func g) #[] #[]] 81))
  have g3 := (Grew.refl w2).alloc (.cells #[.int .u8 (num : Nat), .int .i64 (least : Nat), .int .i64 (most : Nat), .slice A m c, .func (.func g) #[] #[]] 81)
  generalize w2.alloc (.cells #[.int .u8 (num : Nat), .int .i64 (least : Nat), .int .i64 (most : Nat), .slice A m c, .func (.func g) #[] #[]] 81) = V3 at *
  have z3 := ((g2.trans g3).below.block _ s1).trans z1
  have G3 := Lib.hid (G1.out.trans (g2.trans g3))
  have hw2 : w.heap.size < w2.heap.size := Nat.lt_of_lt_of_le s1 g2.size
  obtain ⟨M, hM⟩ : ∃ M, n - 1 = M := ⟨_, rfl⟩
  have hx : IntKind.i64.wrap ((n : Int) - 1) = (M : Nat) := by rw [IntWalk.i64_in _ (by omega)]; omega
  rw [hM] at HANS
  have hnM : n = M + 1 := by omega
  have HN := Lib.hid hnM
  have L0 := Lib.hid l1
  have L1 := Lib.hid (Nat.lt_of_lt_of_le l1 (g2.trans g3).size)
  have GW13 := Lib.hid (g2.trans g3)
  have HP := Lib.hid hP
  have G23 := Lib.hid g3
  clear hM hnM l1 g2 g3 hP HK y0 n1 z1 s1 G1
  have HK3 := Lib.hid K3
  obtain ⟨ltK, q0, q1, q2, q3, q4, _⟩ := K3
  by_cases hsh : M < least
  · have c1' : (M : Int) < least := by omega
    have he : parseOf s = ({}, 4) := by rw [HANS.out, if_pos hsh]
    have HE := Lib.hid he
    clear he hsh HANS HR HRD HPS M1 L1 HP
    go_wp2_with (first | (refine wpList_build_as rfl 42 _ rfl Z [] rfl HB.out ?_) | (refine wpList_store_at rfl 42 _ _ rfl w.heap.size Z Z 42 z3 rfl rfl (by rw [HI.out, HC.out]) rfl HO.out ?_))
    refine bodyPost_ret (results_cell_tmp rfl _ _ w.heap.size Z 42 _ rfl (setRow_heap V3 w.heap.size Z Z _ _ z3) Tryz.underlying42 rfl (by rw [HI.out, HC.out])) rfl ?_
    exact (HPZ 4 HE.out V3 G3.out).out
  · have c1' : ¬ (M : Int) < least := by omega
    by_cases hlo : most < M
    · have c2' : (most : Int) < M := by omega
      have he : parseOf s = ({}, 3) := by rw [HANS.out, if_neg hsh, if_pos hlo]
      have HE := Lib.hid he
      clear he hsh hlo HANS HR HRD HPS M1 L1 HP
      go_wp2_with (first | (refine wpList_build_as rfl 42 _ rfl Z [] rfl HB.out ?_) | (refine wpList_store_at rfl 42 _ _ rfl w.heap.size Z Z 42 z3 rfl rfl (by rw [HI.out, HC.out]) rfl HO.out ?_))
      refine bodyPost_ret (results_cell_tmp rfl _ _ w.heap.size Z 42 _ rfl (setRow_heap V3 w.heap.size Z Z _ _ z3) Tryz.underlying42 rfl (by rw [HI.out, HC.out])) rfl ?_
      exact (HPZ 3 HE.out V3 G3.out).out
    · have c2' : ¬ (most : Int) < M := by omega
      have hans : parseOf s = if (readOf (fb (partsB s)) num M).2 then ({}, 5) else ((readOf (fb (partsB s)) num M).1, 0) := by rw [HANS.out, if_neg hsh, if_neg hlo]
      rw [HRD.out] at hans
      have HA2 := Lib.hid hans
      have HSH := Lib.hid hsh
      clear hans hlo HANS HRD hsh
      go_upto_region 10 with fail
      go_upto_region 12 with fail
      obtain ⟨V4, hV4, g4, s4, c4⟩ := newE V3
      rw [hV4]
      have S4 := Lib.hid s4
      have C4 := Lib.hid c4
      have HK4 := Lib.hid (HK3.out.grew g4)
      clear q0 q1 q2 q3 q4 hV4 s4 c4
      obtain ⟨_, q0, q1, q2, q3, q4, _⟩ := HK4.out
      go_upto_region 13 with (first | (refine wpList_build_as rfl 42 _ rfl F [(0, .int .u8 (num : Nat))] rfl HF.out ?_) | (refine wpList_alloc_as rfl 42 rfl Z HZ.out ?_) | (refine wpList_store_new rfl 42 _ _ rfl V4 F Z 42 rfl rfl rfl (by rw [HI.out, HCF.out]) (by rw [HC.out, HCF.out]) HOF.out ?_))
      obtain ⟨V5, hV5, g5, s5, c5⟩ := newO V4 (.cells F 42)
      rw [hV5]
      have S5 := Lib.hid s5
      have C5 := Lib.hid c5
      have HK5 := Lib.hid (HK4.out.grew g5)
      clear q0 q1 q2 q3 q4 hV5 s5 c5
      obtain ⟨_, q0, q1, q2, q3, q4, _⟩ := HK5.out
      go_upto_region 14 with fail
      obtain ⟨V6, hV6, g6, lt6, d0, d1⟩ := boxR V5 S n c1 V3.heap.size
      rw [hV6]
      clear hV6
      have s4 := S4.out
      have s5 := S5.out
      have HK6 := Lib.hid (HK4.out.grew (g5.trans g6))
      clear q0 q1 q2 q3 q4
      obtain ⟨_, q0, q1, q2, q3, q4, _⟩ := HK6.out
      have G36 := (g4.trans g5).trans g6
      have RD : Rd V6 S n c1 (partsB s) V3.heap.size V4.heap.size ({ kind := num }, false) := by
        refine ⟨HLN.out, k1, Nat.lt_of_lt_of_le L1.out G36.size, fun j x hx => ((GW13.out.trans G36).cell (p := ⟨S, j, none⟩) L0.out).trans (M1.out j x hx), HSM.out, hple, ?_, ?_, by have := L1.out; omega, by have := L1.out; omega, by omega⟩
        · rw [((g5.trans g6).below.block _ (by omega)).trans C4.out]; rfl
        · rw [(g6.below.block _ (by omega)).trans C5.out, HFF.out]
      have hPA := HP.out.at_ (G23.out.trans G36) (E := V3.heap.size) G23.out.size
      have HNEED := Lib.hid (r_need RD (.slice A m c) ps hPA (fun i p hp => by have := HPS.out i p hp; have := HN.out; have := HSH.out; omega) hpl)
      unfold Rdt rv at HNEED
      have hKB : w2.heap.size ≠ V3.heap.size := by omega
      have z6 := (G36.below.block _ (by omega)).trans z3
      have G6 := Lib.hid (G3.out.trans G36)
      have HRD6 := Lib.hid RD
      clear s4 s5 RD hPA
      go_upto_region 15 with (first | (go_at_call 51; refine HNEED.out.mono ?_; rintro e w7 ⟨rfl, hh, gg⟩))
      have S4' := S4.out
      have S5' := S5.out
      have hw6 : V3.heap.size < V6.heap.size := by omega
      have qq := (gg.cell (p := ⟨w2.heap.size, 4, none⟩) (by simp only; omega) hKB).trans q4
      have e0 := (gg.cell (p := ⟨V5.heap.size, 0, none⟩) lt6 (fun e => by have e' : V5.heap.size = V3.heap.size := e; omega)).trans d0
      have e1 := (gg.cell (p := ⟨V5.heap.size, 1, none⟩) lt6 (fun e => by have e' : V5.heap.size = V3.heap.size := e; omega)).trans d1
      have z7 := (gg.block w.heap.size (by omega) (fun e => by have e' : w.heap.size = V3.heap.size := e; omega)).trans z6
      have hne : w.heap.size ≠ V3.heap.size ∧ w.heap.size ≠ V4.heap.size ∧ w.heap.size < w7.heap.size := ⟨by omega, by omega, by have := gg.size; omega⟩
      have G7 := Lib.hid ((Far.of_grew G6.out).trans (farE_x (X := V4.heap.size) gg))
      have hEw : w.heap.size ≤ V3.heap.size ∧ w.heap.size ≤ V4.heap.size := ⟨by omega, by omega⟩
      obtain ⟨s7, hs7⟩ : ∃ t, needTo (fb (partsB s)) ps ps.length ({ kind := num }, false) = t := ⟨_, rfl⟩
      have h70 : s7.1.sats = 0 := by rw [← hs7, needTo_fst]
      rw [hs7] at hh HA2
      have HRUN := HR.out w7 S n c1 (partsB s) V3.heap.size V4.heap.size s7 hh (by have := HN.out; have := HSH.out; omega) h70
      rw [show n - 1 = M by have := HN.out; omega] at HRUN
      obtain ⟨s8, hs8⟩ : ∃ t, rd (fb (partsB s)) M s7 = t := ⟨_, rfl⟩
      rw [hs8] at HRUN HA2
      unfold Rdx rv at HRUN
      have HRUN2 := Lib.hid HRUN
      clear HRUN hs8 hs7 h70 hh gg S4' S5' hw6 d0 d1 q0 q1 q2 q3 q4 hKB z6 HNEED HRD6 HR
      go_upto_region 16 with (go_at_fn g; refine HRUN2.out.mono ?_; rintro e w8 ⟨rfl, h8, g8⟩)
      have z8 := (g8.block w.heap.size hne.2.2 (fun e => e.elim hne.1 hne.2.1)).trans z7
      have ke := h8.cellE
      have G8 := Lib.hid (Far.grew (G7.out.trans g8) (Grew.refl w) (fun k hk => hk.elim (fun e => e ▸ hEw.1) (fun e => e ▸ hEw.2)))
      have hX := h8.fix
      obtain ⟨⟨F8, b8⟩, hb8⟩ : ∃ t : Rs, s8 = t := ⟨_, rfl⟩
      subst hb8
      simp only at ke hX HA2
      have HC8 := Lib.hid (told_size F8)
      have HO8 := Lib.hid (told_one F8)
      have HT8 := Lib.hid (show F8.value = .agg F8.cells from rfl)
      clear h8 g8 z7 qq e0 e1 HRUN2
      cases b8
      · rw [if_neg (by simp)] at ke
        have he : parseOf s = (F8, 0) := by rw [HA2.out, if_neg (by simp)]
        have HE := Lib.hid he
        generalize Told.cells F8 = C8 at *
        clear he HA2
        go_wp2_with (first | (refine wpList_load_whole rfl 42 _ rfl V4.heap.size rfl C8 42 _ hX Tryz.underlying42 rfl (by rw [HI.out, HC8.out]) ?_) | (refine wpList_store_at rfl 42 _ _ rfl w.heap.size C8 Z 42 z8 rfl rfl (by rw [HI.out, HC8.out]) (by rw [HC.out, HC8.out]) HO8.out ?_))
        refine bodyPost_ret (results_cell_tmp rfl _ _ w.heap.size C8 42 _ rfl (setRow_heap w8 w.heap.size Z C8 _ _ z8) Tryz.underlying42 rfl (by rw [HI.out, HC8.out])) rfl ?_
        exact ⟨by rw [HE.out, HT8.out]; rfl, Far.grew (far_setRow w8 w.heap.size C8) G8.out (fun k hk => Nat.le_of_eq hk.symm)⟩
      · rw [if_pos rfl] at ke
        have he : parseOf s = ({}, 5) := by rw [HA2.out, if_pos rfl]
        have HE := Lib.hid he
        have hbz := HB.out
        clear he hX
        go_upto_region 17 with fail
        have hne1 := hne.1
        have hltE := World.block_lt_of_cell? _ _ ke
        have zd : w8.drew.heap[w.heap.size]? = some (.cells Z 42) := z8
        have ked : w8.drew.cell? ⟨V3.heap.size, 0, none⟩ = some (.int .i64 5) := ke
        have hke2 : (w8.drew.setRow w.heap.size Z).cell? ⟨V3.heap.size, 0, none⟩ = some (.int .i64 5) := (Far.cell (far_setRow w8.drew w.heap.size Z) (p := ⟨V3.heap.size, 0, none⟩) hltE (fun e => hne1 e.symm)).trans ked
        have hzr := setRow_heap w8.drew w.heap.size Z Z 42 (0, 0) zd
        have HQ := HPZ 5 HE.out w8.drew (G8.out.drew)
        clear hne z8 HF HCF HOF HFF HO8 HC8 HT8 HP HPS HSH M1 HSM HA2 C4 C5 S4 S5 HK3 HK4 HK5 HK6 hbz HPZ HE HN L0 L1 GW13 G23 G36 eg hb hnum
        refine wp_region_any (by kernel_rfl) ?_
        change wpAny _ _ _ _ _ _ _ (World.drew _)
        refine wpAny_take (i := 0) (v := .agg Z) rfl (by kernel_rfl) (by kernel_rfl) (by kernel_rfl) (fun _ _ _ h => h) (Or.inl ⟨by rfl, ?_⟩) ?_
        · intro w'
          rw [← HZZ.out]
          go_simp
          try rfl
        refine wpAny_ready (rs := [1, 2]) (by kernel_rfl) (by simp) ?_
        refine AllReady.cons rfl (fun K hK => ?_) (AllReady.cons rfl (fun K hK => ?_) AllReady.nil)
        · go_simp
          refine hK _ _ ?_
          clear hK K
          refine wpAny_ready (rs := [2]) (by kernel_rfl) (by simp) ?_
          refine AllReady.cons rfl (fun K hK => ?_) AllReady.nil
          rw [if_pos (by rfl)]
          refine wp_store_row 42 _ _ rfl w.heap.size Z rfl rfl 42 Z zd (by rw [HI.out, HC.out]) rfl HO.out ?_
          refine hK _ _ ?_
          clear hK K
          refine wpAny_ready (rs := [3]) (by kernel_rfl) (by simp) ?_
          refine AllReady.cons rfl (fun K hK => ?_) AllReady.nil
          go_simp
          refine hK _ _ ?_
          clear hK K
          refine wpAny_done (by kernel_rfl) ?_ _
          go_wp2_with fail
          refine bodyPost_ret (results_cell_tmp rfl _ _ w.heap.size Z 42 _ rfl hzr Tryz.underlying42 rfl (by rw [HI.out, HC.out])) rfl ?_
          exact HQ.out
        · rw [if_pos (by rfl)]
          refine wp_store_row 42 _ _ rfl w.heap.size Z rfl rfl 42 Z zd (by rw [HI.out, HC.out]) rfl HO.out ?_
          refine hK _ _ ?_
          clear hK K
          refine wpAny_ready (rs := [1]) (by kernel_rfl) (by simp) ?_
          refine AllReady.cons rfl (fun K hK => ?_) AllReady.nil
          go_simp
          refine hK _ _ ?_
          clear hK K
          refine wpAny_ready (rs := [3]) (by kernel_rfl) (by simp) ?_
          refine AllReady.cons rfl (fun K hK => ?_) AllReady.nil
          go_simp
          refine hK _ _ ?_
          clear hK K
          refine wpAny_done (by kernel_rfl) ?_ _
          go_wp2_with fail
          refine bodyPost_ret (results_cell_tmp rfl _ _ w.heap.size Z 42 _ rfl hzr Tryz.underlying42 rfl (by rw [HI.out, HC.out])) rfl ?_
          exact HQ.out
end Go.Proofs.YtnhigfkhdmkoeaaGreatDoor

namespace Go.Proofs.YtnhigfkhdmkoeaaGreatDoor
open Go.RowKit
set_option linter.unusedVariables false

/- The program's sentences: GLL, VTG, RMC. -/
section
variable {w w' : World} {S n c E X : Nat} {bs : List ByteArray} {s : Rs}
set_option maxHeartbeats 4000000 in
set_option maxRecDepth 100000 in
theorem r_gll (h : Rd w S n c bs E X s) (hn : 7 ≤ n) : Calls Tryz.prog 92 #[rv S n c E, .pointer (some ⟨X, 0, none⟩)] w (Rdx w S n c bs E X (gllOf (fb bs) s)) := by
  obtain ⟨W, hW, gW, ltW, d0, d1⟩ := boxR w S n c E
  have hEl := h.hE
  have hXl := h.hX
  have KB := box_keptX ltW (show w.heap.size ≠ E by omega) (show w.heap.size ≠ X by omega) d0 d1
  have HH := Lib.hid (h.grew gW)
  have GW := Lib.hid gW
  have G : Hid (FarX E X W W) := Lib.hid (Far.refl _ _)
  clear h gW
  unfold rv
  go_enter Tryz.func92, Tryz.ntmps92
  go_upto_region 1 with fail
  have H := Lib.hid (q_position HH.out 1 (by omega))
  unfold Rdx rv at H
  go_upto_region 2 with (go_at_call 113; refine H.out.mono ?_; rintro e w1 ⟨rfl, hh, gg⟩)
  have hh2 := hh
  have g2 := (G.out.trans gg)
  obtain ⟨s1, hs1⟩ : ∃ t : Rs, sPos (fb bs) 1 s = t := ⟨_, rfl⟩
  replace hh2 := Rd.as hs1 hh2
  have HS1 := Lib.hid hs1
  replace HH := Lib.hid hh2
  replace G := Lib.hid g2
  clear hs1 hh2 g2 H hh gg 
  clear d0 d1
  obtain ⟨d0, d1⟩ := KB _ G.out
  obtain ⟨r2, hr2⟩ : ∃ r2, clockOf (fb bs 5) = r2 := ⟨_, rfl⟩
  have H := Lib.hid (q_clock HH.out 5 (by omega) r2 hr2)
  unfold Rdt rv at H
  have HR2' := Lib.hid hr2
  clear hr2
  go_upto_region 3 with (go_at_call 111; refine H.out.mono ?_; rintro e w2 ⟨rfl, hh, gg⟩; have k5 := hh.cellX 5 _ rfl; have f5 := hh.frozenX 5; have k6 := hh.cellX 6 _ rfl; have f6 := hh.frozenX 6; have k7 := hh.cellX 7 _ rfl; have f7 := hh.frozenX 7; have k8 := hh.cellX 8 _ rfl; have f8 := hh.frozenX 8; have k2 := hh.cellX 2 _ rfl; have f2 := hh.frozenX 2)
  have hh2 := hh.time HR2'.out
  have g2 := farX_time (G.out.trans (farE_x gg)) (.int .i64 (r2.1.1 : Nat)) (.int .i64 (r2.1.2.1 : Nat)) (.int .i64 (r2.1.2.2.1 : Nat)) (.bool r2.1.2.2.2) (.bool (r2.2 == 0))
  obtain ⟨s2, hs2⟩ : ∃ t : Rs, sTime (fb bs) 5 s1 = t := ⟨_, rfl⟩
  replace hh2 := Rd.as hs2 hh2
  have HS2 := Lib.hid hs2
  replace HH := Lib.hid hh2
  replace G := Lib.hid g2
  clear hs2 hh2 g2 H hh gg k5 f5 k6 f6 k7 f7 k8 f8 k2 f2
  clear d0 d1
  obtain ⟨d0, d1⟩ := KB _ G.out
  obtain ⟨r3, hr3⟩ : ∃ r3, oneOf (fb bs 6) [65, 86] = r3 := ⟨_, rfl⟩
  have H := Lib.hid (q_active HH.out 6 (by omega) r3 hr3)
  unfold Rdt rv at H
  have HR3' := Lib.hid hr3
  clear hr3
  go_wp2_with (go_at_call 112; refine H.out.mono ?_; rintro e w3 ⟨rfl, hh, gg⟩; have k1 := hh.cellX 1 _ rfl; have f1 := hh.frozenX 1)
  have hh2 := hh.p_valid (r3.2 == 0 && r3.1 == 0)
  have g2 := farX_put (G.out.trans (farE_x gg)) 1 (.bool (r3.2 == 0 && r3.1 == 0))
  obtain ⟨s3, hs3⟩ : ∃ t : Rs, ({ s2.1 with valid := r3.2 == 0 && r3.1 == 0 }, s2.2 || badE r3.2) = t := ⟨_, rfl⟩
  replace hh2 := Rd.as hs3 hh2
  have HS3 := Lib.hid hs3
  replace HH := Lib.hid hh2
  replace G := Lib.hid g2
  clear hs3 hh2 g2 H hh gg k1 f1
  go_returns
  have hh := HH.out
  have q := HS1.out; clear HS1; subst q
  have q := HR2'.out; clear HR2'; subst q
  have q := HS2.out; clear HS2; subst q
  have q := HR3'.out; clear HR3'; subst q
  have q := HS3.out; clear HS3; subst q
  exact ⟨rfl, hh, (Far.of_grew GW.out).trans G.out⟩

set_option maxHeartbeats 4000000 in
set_option maxRecDepth 100000 in
theorem r_vtg (h : Rd w S n c bs E X s) (hn : 9 ≤ n) : Calls Tryz.prog 95 #[rv S n c E, .pointer (some ⟨X, 0, none⟩)] w (Rdx w S n c bs E X (vtgOf (fb bs) s)) := by
  obtain ⟨W, hW, gW, ltW, d0, d1⟩ := boxR w S n c E
  have hEl := h.hE
  have hXl := h.hX
  have KB := box_keptX ltW (show w.heap.size ≠ E by omega) (show w.heap.size ≠ X by omega) d0 d1
  have HH := Lib.hid (h.grew gW)
  have GW := Lib.hid gW
  have G : Hid (FarX E X W W) := Lib.hid (Far.refl _ _)
  clear h gW
  unfold rv
  go_enter Tryz.func95, Tryz.ntmps95
  go_upto_region 1 with fail
  obtain ⟨u1, hu1⟩ : ∃ u1, uOf (fb bs) 1 2 = u1 := ⟨_, rfl⟩
  obtain ⟨b1, hb1⟩ : ∃ b1, unsBad (fb bs 1) 2 = b1 := ⟨_, rfl⟩
  have H := Lib.hid (q_unsigned HH.out 1 (by omega) 2 (by decide) u1 hu1 b1 hb1)
  unfold Rdt rv at H
  have HU1' := Lib.hid hu1
  clear hu1
  have HB1' := Lib.hid hb1
  clear hb1
  go_upto_region 2 with (go_at_call 114; refine H.out.mono ?_; rintro e w1 ⟨rfl, hh, gg⟩; have k15 := hh.cellX 15 _ rfl; have f15 := hh.frozenX 15)
  have hh2 := hh.p_course u1
  have g2 := farX_put (G.out.trans (farE_x gg)) 15 (.int .i64 u1)
  obtain ⟨s1, hs1⟩ : ∃ t : Rs, ({ s.1 with course := u1 }, s.2 || b1) = t := ⟨_, rfl⟩
  replace hh2 := Rd.as hs1 hh2
  have HS1 := Lib.hid hs1
  replace HH := Lib.hid hh2
  replace G := Lib.hid g2
  clear hs1 hh2 g2 H hh gg k15 f15
  clear d0 d1
  obtain ⟨d0, d1⟩ := KB _ G.out
  obtain ⟨r2, hr2⟩ : ∃ r2, oneOf (fb bs 2) (nat ⟨#[84]⟩) = r2 := ⟨_, rfl⟩
  have H := Lib.hid (q_letter HH.out 2 (by omega) ⟨#[84]⟩ (by decide) r2 hr2)
  unfold Rdt rv at H
  have HR2' := Lib.hid hr2
  clear hr2
  go_upto_region 3 with (go_at_call 118; refine H.out.mono ?_; rintro e w2 ⟨rfl, hh, gg⟩)
  have hh2 := hh
  have g2 := (G.out.trans (farE_x gg))
  obtain ⟨s2, hs2⟩ : ∃ t : Rs, (s1.1, s1.2 || badE r2.2) = t := ⟨_, rfl⟩
  replace hh2 := Rd.as hs2 hh2
  have HS2 := Lib.hid hs2
  replace HH := Lib.hid hh2
  replace G := Lib.hid g2
  clear hs2 hh2 g2 H hh gg 
  clear d0 d1
  obtain ⟨d0, d1⟩ := KB _ G.out
  obtain ⟨u3, hu3⟩ : ∃ u3, uOf (fb bs) 5 3 = u3 := ⟨_, rfl⟩
  obtain ⟨b3, hb3⟩ : ∃ b3, unsBad (fb bs 5) 3 = b3 := ⟨_, rfl⟩
  have H := Lib.hid (q_unsigned HH.out 5 (by omega) 3 (by decide) u3 hu3 b3 hb3)
  unfold Rdt rv at H
  have HU3' := Lib.hid hu3
  clear hu3
  have HB3' := Lib.hid hb3
  clear hb3
  go_upto_region 4 with (go_at_call 114; refine H.out.mono ?_; rintro e w3 ⟨rfl, hh, gg⟩; have k14 := hh.cellX 14 _ rfl; have f14 := hh.frozenX 14)
  have hh2 := hh.p_speed u3
  have g2 := farX_put (G.out.trans (farE_x gg)) 14 (.int .i64 u3)
  obtain ⟨s3, hs3⟩ : ∃ t : Rs, ({ s2.1 with speed := u3 }, s2.2 || b3) = t := ⟨_, rfl⟩
  replace hh2 := Rd.as hs3 hh2
  have HS3 := Lib.hid hs3
  replace HH := Lib.hid hh2
  replace G := Lib.hid g2
  clear hs3 hh2 g2 H hh gg k14 f14
  clear d0 d1
  obtain ⟨d0, d1⟩ := KB _ G.out
  obtain ⟨r4, hr4⟩ : ∃ r4, oneOf (fb bs 6) (nat ⟨#[78]⟩) = r4 := ⟨_, rfl⟩
  have H := Lib.hid (q_letter HH.out 6 (by omega) ⟨#[78]⟩ (by decide) r4 hr4)
  unfold Rdt rv at H
  have HR4' := Lib.hid hr4
  clear hr4
  go_upto_region 5 with (go_at_call 118; refine H.out.mono ?_; rintro e w4 ⟨rfl, hh, gg⟩)
  have hh2 := hh
  have g2 := (G.out.trans (farE_x gg))
  obtain ⟨s4, hs4⟩ : ∃ t : Rs, (s3.1, s3.2 || badE r4.2) = t := ⟨_, rfl⟩
  replace hh2 := Rd.as hs4 hh2
  have HS4 := Lib.hid hs4
  replace HH := Lib.hid hh2
  replace G := Lib.hid g2
  clear hs4 hh2 g2 H hh gg 
  clear d0 d1
  obtain ⟨d0, d1⟩ := KB _ G.out
  have k1 := HH.out.cellX 1 _ rfl
  have f1 := HH.out.frozenX 1
  go_wp2_with fail
  have hh2 := HH.out.p_valid (true)
  have g2 := farX_put G.out 1 (.bool (true))
  obtain ⟨s5, hs5⟩ : ∃ t : Rs, ({ s4.1 with valid := true }, s4.2) = t := ⟨_, rfl⟩
  replace hh2 := Rd.as hs5 hh2
  have HS5 := Lib.hid hs5
  replace HH := Lib.hid hh2
  replace G := Lib.hid g2
  clear hs5 hh2 g2 k1 f1
  go_returns
  have hh := HH.out
  have q := HU1'.out; clear HU1'; subst q
  have q := HB1'.out; clear HB1'; subst q
  have q := HS1.out; clear HS1; subst q
  have q := HR2'.out; clear HR2'; subst q
  have q := HS2.out; clear HS2; subst q
  have q := HU3'.out; clear HU3'; subst q
  have q := HB3'.out; clear HB3'; subst q
  have q := HS3.out; clear HS3; subst q
  have q := HR4'.out; clear HR4'; subst q
  have q := HS4.out; clear HS4; subst q
  have q := HS5.out; clear HS5; subst q
  exact ⟨rfl, hh, (Far.of_grew GW.out).trans G.out⟩

set_option maxHeartbeats 4000000 in
set_option maxRecDepth 100000 in
theorem r_rmc (h : Rd w S n c bs E X s) (hn : 12 ≤ n) : Calls Tryz.prog 90 #[rv S n c E, .pointer (some ⟨X, 0, none⟩)] w (Rdx w S n c bs E X (rmcOf (fb bs) s)) := by
  obtain ⟨W, hW, gW, ltW, d0, d1⟩ := boxR w S n c E
  have hEl := h.hE
  have hXl := h.hX
  have KB := box_keptX ltW (show w.heap.size ≠ E by omega) (show w.heap.size ≠ X by omega) d0 d1
  have HH := Lib.hid (h.grew gW)
  have GW := Lib.hid gW
  have G : Hid (FarX E X W W) := Lib.hid (Far.refl _ _)
  clear h gW
  unfold rv
  go_enter Tryz.func90, Tryz.ntmps90
  go_upto_region 1 with fail
  obtain ⟨r1, hr1⟩ : ∃ r1, clockOf (fb bs 1) = r1 := ⟨_, rfl⟩
  have H := Lib.hid (q_clock HH.out 1 (by omega) r1 hr1)
  unfold Rdt rv at H
  have HR1' := Lib.hid hr1
  clear hr1
  go_upto_region 2 with (go_at_call 111; refine H.out.mono ?_; rintro e w1 ⟨rfl, hh, gg⟩; have k5 := hh.cellX 5 _ rfl; have f5 := hh.frozenX 5; have k6 := hh.cellX 6 _ rfl; have f6 := hh.frozenX 6; have k7 := hh.cellX 7 _ rfl; have f7 := hh.frozenX 7; have k8 := hh.cellX 8 _ rfl; have f8 := hh.frozenX 8; have k2 := hh.cellX 2 _ rfl; have f2 := hh.frozenX 2)
  have hh2 := hh.time HR1'.out
  have g2 := farX_time (G.out.trans (farE_x gg)) (.int .i64 (r1.1.1 : Nat)) (.int .i64 (r1.1.2.1 : Nat)) (.int .i64 (r1.1.2.2.1 : Nat)) (.bool r1.1.2.2.2) (.bool (r1.2 == 0))
  obtain ⟨s1, hs1⟩ : ∃ t : Rs, sTime (fb bs) 1 s = t := ⟨_, rfl⟩
  replace hh2 := Rd.as hs1 hh2
  have HS1 := Lib.hid hs1
  replace HH := Lib.hid hh2
  replace G := Lib.hid g2
  clear hs1 hh2 g2 H hh gg k5 f5 k6 f6 k7 f7 k8 f8 k2 f2
  clear d0 d1
  obtain ⟨d0, d1⟩ := KB _ G.out
  obtain ⟨r2, hr2⟩ : ∃ r2, oneOf (fb bs 2) [65, 86] = r2 := ⟨_, rfl⟩
  have H := Lib.hid (q_active HH.out 2 (by omega) r2 hr2)
  unfold Rdt rv at H
  have HR2' := Lib.hid hr2
  clear hr2
  go_upto_region 3 with (go_at_call 112; refine H.out.mono ?_; rintro e w2 ⟨rfl, hh, gg⟩; have k1 := hh.cellX 1 _ rfl; have f1 := hh.frozenX 1)
  have hh2 := hh.p_valid (r2.2 == 0 && r2.1 == 0)
  have g2 := farX_put (G.out.trans (farE_x gg)) 1 (.bool (r2.2 == 0 && r2.1 == 0))
  obtain ⟨s2, hs2⟩ : ∃ t : Rs, ({ s1.1 with valid := r2.2 == 0 && r2.1 == 0 }, s1.2 || badE r2.2) = t := ⟨_, rfl⟩
  replace hh2 := Rd.as hs2 hh2
  have HS2 := Lib.hid hs2
  replace HH := Lib.hid hh2
  replace G := Lib.hid g2
  clear hs2 hh2 g2 H hh gg k1 f1
  clear d0 d1
  obtain ⟨d0, d1⟩ := KB _ G.out
  have H := Lib.hid (q_position HH.out 3 (by omega))
  unfold Rdx rv at H
  go_upto_region 4 with (go_at_call 113; refine H.out.mono ?_; rintro e w3 ⟨rfl, hh, gg⟩)
  have hh2 := hh
  have g2 := (G.out.trans gg)
  obtain ⟨s3, hs3⟩ : ∃ t : Rs, sPos (fb bs) 3 s2 = t := ⟨_, rfl⟩
  replace hh2 := Rd.as hs3 hh2
  have HS3 := Lib.hid hs3
  replace HH := Lib.hid hh2
  replace G := Lib.hid g2
  clear hs3 hh2 g2 H hh gg 
  clear d0 d1
  obtain ⟨d0, d1⟩ := KB _ G.out
  obtain ⟨u4, hu4⟩ : ∃ u4, uOf (fb bs) 7 3 = u4 := ⟨_, rfl⟩
  obtain ⟨b4, hb4⟩ : ∃ b4, unsBad (fb bs 7) 3 = b4 := ⟨_, rfl⟩
  have H := Lib.hid (q_unsigned HH.out 7 (by omega) 3 (by decide) u4 hu4 b4 hb4)
  unfold Rdt rv at H
  have HU4' := Lib.hid hu4
  clear hu4
  have HB4' := Lib.hid hb4
  clear hb4
  go_upto_region 5 with (go_at_call 114; refine H.out.mono ?_; rintro e w4 ⟨rfl, hh, gg⟩; have k14 := hh.cellX 14 _ rfl; have f14 := hh.frozenX 14)
  have hh2 := hh.p_speed u4
  have g2 := farX_put (G.out.trans (farE_x gg)) 14 (.int .i64 u4)
  obtain ⟨s4, hs4⟩ : ∃ t : Rs, ({ s3.1 with speed := u4 }, s3.2 || b4) = t := ⟨_, rfl⟩
  replace hh2 := Rd.as hs4 hh2
  have HS4 := Lib.hid hs4
  replace HH := Lib.hid hh2
  replace G := Lib.hid g2
  clear hs4 hh2 g2 H hh gg k14 f14
  clear d0 d1
  obtain ⟨d0, d1⟩ := KB _ G.out
  obtain ⟨u5, hu5⟩ : ∃ u5, uOf (fb bs) 8 2 = u5 := ⟨_, rfl⟩
  obtain ⟨b5, hb5⟩ : ∃ b5, unsBad (fb bs 8) 2 = b5 := ⟨_, rfl⟩
  have H := Lib.hid (q_unsigned HH.out 8 (by omega) 2 (by decide) u5 hu5 b5 hb5)
  unfold Rdt rv at H
  have HU5' := Lib.hid hu5
  clear hu5
  have HB5' := Lib.hid hb5
  clear hb5
  go_upto_region 6 with (go_at_call 114; refine H.out.mono ?_; rintro e w5 ⟨rfl, hh, gg⟩; have k15 := hh.cellX 15 _ rfl; have f15 := hh.frozenX 15)
  have hh2 := hh.p_course u5
  have g2 := farX_put (G.out.trans (farE_x gg)) 15 (.int .i64 u5)
  obtain ⟨s5, hs5⟩ : ∃ t : Rs, ({ s4.1 with course := u5 }, s4.2 || b5) = t := ⟨_, rfl⟩
  replace hh2 := Rd.as hs5 hh2
  have HS5 := Lib.hid hs5
  replace HH := Lib.hid hh2
  replace G := Lib.hid g2
  clear hs5 hh2 g2 H hh gg k15 f15
  clear d0 d1
  obtain ⟨d0, d1⟩ := KB _ G.out
  obtain ⟨r6, hr6⟩ : ∃ r6, dateOf (fb bs 9) = r6 := ⟨_, rfl⟩
  have H := Lib.hid (q_date HH.out 9 (by omega) r6 hr6)
  unfold Rdt rv at H
  have HR6' := Lib.hid hr6
  clear hr6
  go_wp2_with (go_at_call 115; refine H.out.mono ?_; rintro e w6 ⟨rfl, hh, gg⟩; have k9 := hh.cellX 9 _ rfl; have f9 := hh.frozenX 9; have k10 := hh.cellX 10 _ rfl; have f10 := hh.frozenX 10; have k11 := hh.cellX 11 _ rfl; have f11 := hh.frozenX 11; have k3 := hh.cellX 3 _ rfl; have f3 := hh.frozenX 3)
  have hh2 := (((hh.p_day (r6.1.1 : Nat)).p_month (r6.1.2.1 : Nat)).p_year (r6.1.2.2 : Nat)).p_hasDate (r6.2 == 0)
  have g2 := farX_put (farX_put (farX_put (farX_put (G.out.trans (farE_x gg)) 9 (.int .i64 (r6.1.1 : Nat))) 10 (.int .i64 (r6.1.2.1 : Nat))) 11 (.int .i64 (r6.1.2.2 : Nat))) 3 (.bool (r6.2 == 0))
  obtain ⟨s6, hs6⟩ : ∃ t : Rs, ({ s5.1 with day := (r6.1.1 : Nat), month := (r6.1.2.1 : Nat), year := (r6.1.2.2 : Nat), hasDate := r6.2 == 0 }, s5.2 || badE r6.2) = t := ⟨_, rfl⟩
  replace hh2 := Rd.as hs6 hh2
  have HS6 := Lib.hid hs6
  replace HH := Lib.hid hh2
  replace G := Lib.hid g2
  clear hs6 hh2 g2 H hh gg k9 f9 k10 f10 k11 f11 k3 f3
  go_returns
  have hh := HH.out
  have q := HR1'.out; clear HR1'; subst q
  have q := HS1.out; clear HS1; subst q
  have q := HR2'.out; clear HR2'; subst q
  have q := HS2.out; clear HS2; subst q
  have q := HS3.out; clear HS3; subst q
  have q := HU4'.out; clear HU4'; subst q
  have q := HB4'.out; clear HB4'; subst q
  have q := HS4.out; clear HS4; subst q
  have q := HU5'.out; clear HU5'; subst q
  have q := HB5'.out; clear HB5'; subst q
  have q := HS5.out; clear HS5; subst q
  have q := HR6'.out; clear HR6'; subst q
  have q := HS6.out; clear HS6; subst q
  exact ⟨rfl, hh, (Far.of_grew GW.out).trans G.out⟩

end
/- The program's sentences: GGA. -/
section
variable {w w' : World} {S n c E X : Nat} {bs : List ByteArray} {s : Rs}
set_option maxHeartbeats 4000000 in
set_option maxRecDepth 100000 in
theorem r_gga (h : Rd w S n c bs E X s) (hn : 15 ≤ n) : Calls Tryz.prog 91 #[rv S n c E, .pointer (some ⟨X, 0, none⟩)] w (Rdx w S n c bs E X (ggaOf (fb bs) s)) := by
  obtain ⟨W, hW, gW, ltW, d0, d1⟩ := boxR w S n c E
  have hEl := h.hE
  have hXl := h.hX
  have KB := box_keptX ltW (show w.heap.size ≠ E by omega) (show w.heap.size ≠ X by omega) d0 d1
  have HH := Lib.hid (h.grew gW)
  have GW := Lib.hid gW
  have G : Hid (FarX E X W W) := Lib.hid (Far.refl _ _)
  clear h gW
  unfold rv
  go_enter Tryz.func91, Tryz.ntmps91
  go_upto_region 1 with fail
  obtain ⟨r1, hr1⟩ : ∃ r1, clockOf (fb bs 1) = r1 := ⟨_, rfl⟩
  have H := Lib.hid (q_clock HH.out 1 (by omega) r1 hr1)
  unfold Rdt rv at H
  have HR1' := Lib.hid hr1
  clear hr1
  go_upto_region 2 with (go_at_call 111; refine H.out.mono ?_; rintro e w1 ⟨rfl, hh, gg⟩; have k5 := hh.cellX 5 _ rfl; have f5 := hh.frozenX 5; have k6 := hh.cellX 6 _ rfl; have f6 := hh.frozenX 6; have k7 := hh.cellX 7 _ rfl; have f7 := hh.frozenX 7; have k8 := hh.cellX 8 _ rfl; have f8 := hh.frozenX 8; have k2 := hh.cellX 2 _ rfl; have f2 := hh.frozenX 2)
  have hh2 := hh.time HR1'.out
  have g2 := farX_time (G.out.trans (farE_x gg)) (.int .i64 (r1.1.1 : Nat)) (.int .i64 (r1.1.2.1 : Nat)) (.int .i64 (r1.1.2.2.1 : Nat)) (.bool r1.1.2.2.2) (.bool (r1.2 == 0))
  obtain ⟨s1, hs1⟩ : ∃ t : Rs, sTime (fb bs) 1 s = t := ⟨_, rfl⟩
  replace hh2 := Rd.as hs1 hh2
  have HS1 := Lib.hid hs1
  replace HH := Lib.hid hh2
  replace G := Lib.hid g2
  clear hs1 hh2 g2 H hh gg k5 f5 k6 f6 k7 f7 k8 f8 k2 f2
  clear d0 d1
  obtain ⟨d0, d1⟩ := KB _ G.out
  have H := Lib.hid (q_position HH.out 2 (by omega))
  unfold Rdx rv at H
  go_upto_region 3 with (go_at_call 113; refine H.out.mono ?_; rintro e w2 ⟨rfl, hh, gg⟩)
  have hh2 := hh
  have g2 := (G.out.trans gg)
  obtain ⟨s2, hs2⟩ : ∃ t : Rs, sPos (fb bs) 2 s1 = t := ⟨_, rfl⟩
  replace hh2 := Rd.as hs2 hh2
  have HS2 := Lib.hid hs2
  replace HH := Lib.hid hh2
  replace G := Lib.hid g2
  clear hs2 hh2 g2 H hh gg 
  clear d0 d1
  obtain ⟨d0, d1⟩ := KB _ G.out
  obtain ⟨r3, hr3⟩ : ∃ r3, intAns (fb bs 6) 0 8 = r3 := ⟨_, rfl⟩
  have H := Lib.hid (q_number HH.out 6 (by omega) 0 8 (by decide) (by decide) r3 hr3)
  unfold Rdt rv at H
  have HR3' := Lib.hid hr3
  clear hr3
  go_upto_region 4 with (go_at_call 116; refine H.out.mono ?_; rintro e w3 ⟨rfl, hh, gg⟩; have k16 := hh.cellX 16 _ rfl; have f16 := hh.frozenX 16)
  have hh2 := hh.p_quality r3.1
  have g2 := farX_put (G.out.trans (farE_x gg)) 16 (.int .i64 r3.1)
  obtain ⟨s3, hs3⟩ : ∃ t : Rs, ({ s2.1 with quality := r3.1 }, s2.2 || badE r3.2) = t := ⟨_, rfl⟩
  replace hh2 := Rd.as hs3 hh2
  have HS3 := Lib.hid hs3
  replace HH := Lib.hid hh2
  replace G := Lib.hid g2
  clear hs3 hh2 g2 H hh gg k16 f16
  clear d0 d1
  obtain ⟨d0, d1⟩ := KB _ G.out
  have k1 := HH.out.cellX 1 (.bool s3.1.valid) rfl
  have f1 := HH.out.frozenX 1
  have k16 := HH.out.cellX 16 (.int .i64 s3.1.quality) rfl
  have f16 := HH.out.frozenX 16
  go_upto_region 5 with fail
  have hh2 := HH.out.p_valid (decide (0 < s3.1.quality))
  have g2 := farX_put G.out 1 (.bool (decide (0 < s3.1.quality)))
  obtain ⟨s4, hs4⟩ : ∃ t : Rs, ({ s3.1 with valid := decide (0 < s3.1.quality) }, s3.2) = t := ⟨_, rfl⟩
  replace hh2 := Rd.as hs4 hh2
  have HS4 := Lib.hid hs4
  replace HH := Lib.hid hh2
  replace G := Lib.hid g2
  clear hs4 hh2 g2 k1 f1 k16 f16
  clear d0 d1
  obtain ⟨d0, d1⟩ := KB _ G.out
  obtain ⟨r5, hr5⟩ : ∃ r5, intAns (fb bs 7) 0 99 = r5 := ⟨_, rfl⟩
  have H := Lib.hid (q_number HH.out 7 (by omega) 0 99 (by decide) (by decide) r5 hr5)
  unfold Rdt rv at H
  have HR5' := Lib.hid hr5
  clear hr5
  go_upto_region 6 with (go_at_call 116; refine H.out.mono ?_; rintro e w5 ⟨rfl, hh, gg⟩; have k17 := hh.cellX 17 _ rfl; have f17 := hh.frozenX 17)
  have hh2 := hh.p_sats r5.1
  have g2 := farX_put (G.out.trans (farE_x gg)) 17 (.int .i64 r5.1)
  obtain ⟨s5, hs5⟩ : ∃ t : Rs, ({ s4.1 with sats := r5.1 }, s4.2 || badE r5.2) = t := ⟨_, rfl⟩
  replace hh2 := Rd.as hs5 hh2
  have HS5 := Lib.hid hs5
  replace HH := Lib.hid hh2
  replace G := Lib.hid g2
  clear hs5 hh2 g2 H hh gg k17 f17
  clear d0 d1
  obtain ⟨d0, d1⟩ := KB _ G.out
  obtain ⟨u6, hu6⟩ : ∃ u6, uOf (fb bs) 8 2 = u6 := ⟨_, rfl⟩
  obtain ⟨b6, hb6⟩ : ∃ b6, unsBad (fb bs 8) 2 = b6 := ⟨_, rfl⟩
  have H := Lib.hid (q_unsigned HH.out 8 (by omega) 2 (by decide) u6 hu6 b6 hb6)
  unfold Rdt rv at H
  have HU6' := Lib.hid hu6
  clear hu6
  have HB6' := Lib.hid hb6
  clear hb6
  go_upto_region 7 with (go_at_call 114; refine H.out.mono ?_; rintro e w6 ⟨rfl, hh, gg⟩; have k21 := hh.cellX 21 _ rfl; have f21 := hh.frozenX 21)
  have hh2 := hh.p_hdop u6
  have g2 := farX_put (G.out.trans (farE_x gg)) 21 (.int .i64 u6)
  obtain ⟨s6, hs6⟩ : ∃ t : Rs, ({ s5.1 with hdop := u6 }, s5.2 || b6) = t := ⟨_, rfl⟩
  replace hh2 := Rd.as hs6 hh2
  have HS6 := Lib.hid hs6
  replace HH := Lib.hid hh2
  replace G := Lib.hid g2
  clear hs6 hh2 g2 H hh gg k21 f21
  clear d0 d1
  obtain ⟨d0, d1⟩ := KB _ G.out
  obtain ⟨r7, hr7⟩ : ∃ r7, fixedOf (fb bs 9) 3 = r7 := ⟨_, rfl⟩
  have H := Lib.hid (q_fixed HH.out 9 (by omega) 3 (by decide) r7 hr7)
  unfold Rdt rv at H
  have HR7' := Lib.hid hr7
  clear hr7
  go_upto_region 8 with (go_at_call 117; refine H.out.mono ?_; rintro e w7 ⟨rfl, hh, gg⟩; have k19 := hh.cellX 19 _ rfl; have f19 := hh.frozenX 19)
  have hh2 := hh.p_height r7.1
  have g2 := farX_put (G.out.trans (farE_x gg)) 19 (.int .i64 r7.1)
  obtain ⟨s7, hs7⟩ : ∃ t : Rs, ({ s6.1 with height := r7.1 }, s6.2 || badE r7.2) = t := ⟨_, rfl⟩
  replace hh2 := Rd.as hs7 hh2
  have HS7 := Lib.hid hs7
  replace HH := Lib.hid hh2
  replace G := Lib.hid g2
  clear hs7 hh2 g2 H hh gg k19 f19
  clear d0 d1
  obtain ⟨d0, d1⟩ := KB _ G.out
  obtain ⟨r8, hr8⟩ : ∃ r8, oneOf (fb bs 10) (nat ⟨#[77]⟩) = r8 := ⟨_, rfl⟩
  have H := Lib.hid (q_letter HH.out 10 (by omega) ⟨#[77]⟩ (by decide) r8 hr8)
  unfold Rdt rv at H
  have HR8' := Lib.hid hr8
  clear hr8
  go_wp2_with (go_at_call 118; refine H.out.mono ?_; rintro e w8 ⟨rfl, hh, gg⟩)
  have hh2 := hh
  have g2 := (G.out.trans (farE_x gg))
  obtain ⟨s8, hs8⟩ : ∃ t : Rs, (s7.1, s7.2 || badE r8.2) = t := ⟨_, rfl⟩
  replace hh2 := Rd.as hs8 hh2
  have HS8 := Lib.hid hs8
  replace HH := Lib.hid hh2
  replace G := Lib.hid g2
  clear hs8 hh2 g2 H hh gg 
  go_returns
  have hh := HH.out
  have q := HR1'.out; clear HR1'; subst q
  have q := HS1.out; clear HS1; subst q
  have q := HS2.out; clear HS2; subst q
  have q := HR3'.out; clear HR3'; subst q
  have q := HS3.out; clear HS3; subst q
  have q := HS4.out; clear HS4; subst q
  have q := HR5'.out; clear HR5'; subst q
  have q := HS5.out; clear HS5; subst q
  have q := HU6'.out; clear HU6'; subst q
  have q := HB6'.out; clear HB6'; subst q
  have q := HS6.out; clear HS6; subst q
  have q := HR7'.out; clear HR7'; subst q
  have q := HS7.out; clear HS7; subst q
  have q := HR8'.out; clear HR8'; subst q
  have q := HS8.out; clear HS8; subst q
  exact ⟨rfl, hh, (Far.of_grew GW.out).trans G.out⟩

end
/- The program's sentences: GSV. -/
section
variable {w w' : World} {S n c E X : Nat} {bs : List ByteArray} {s : Rs}
set_option maxHeartbeats 4000000 in
set_option maxRecDepth 100000 in
theorem r_gsv (h : Rd w S n c bs E X s) (hn : 4 ≤ n) : Calls Tryz.prog 96 #[rv S n c E, .pointer (some ⟨X, 0, none⟩)] w (Rdx w S n c bs E X (gsvOf (fb bs) (n - 1) s)) := by
  obtain ⟨W, hW, gW, ltW, d0, d1⟩ := boxR w S n c E
  have hEl := h.hE
  have hXl := h.hX
  have KB := box_keptX ltW (show w.heap.size ≠ E by omega) (show w.heap.size ≠ X by omega) d0 d1
  have HH := Lib.hid (h.grew gW)
  have GW := Lib.hid gW
  have G : Hid (FarX E X W W) := Lib.hid (Far.refl _ _)
  clear h gW
  unfold rv
  go_enter Tryz.func96, Tryz.ntmps96
  obtain ⟨m, hm⟩ : ∃ m, n - 1 = m := ⟨_, rfl⟩
  have hnm := HH.out.many
  have hx : IntKind.i64.wrap ((n : Int) - 1) = (m : Nat) := by rw [IntWalk.i64_in _ (by omega)]; omega
  rw [hm]
  have HM := Lib.hid hm
  clear hm hnm
  go_upto_region 2 with fail
  have HA := fun b => Lib.hid (r_ask HH.out b)
  unfold Rdt rv at HA
  obtain ⟨q, hq⟩ : ∃ q, m % 4 = q := ⟨_, rfl⟩
  have e4 : (m : Int).tmod 4 = (q : Nat) := by rw [← hq]; rfl
  have e5 : (m : Int) % 4 = (q : Nat) := by omega
  have hq4 : q < 4 := by omega
  obtain ⟨s1, hs1⟩ : ∃ t : Rs, (s.1, s.2 || !(q == 3 || q == 0)) = t := ⟨_, rfl⟩
  have HQ := Lib.hid hq
  clear hq
  go_cut [18] (fun z wx => Rd wx S n c bs E X s1 ∧ FarE E W wx)
  case first =>
    rcases (show q = 0 ∨ q = 1 ∨ q = 2 ∨ q = 3 by omega) with rfl | rfl | rfl | rfl
    all_goals
      have HS1 := Lib.hid hs1
      clear hs1 hq4
      go_wp2_with (first | (go_at_call 73; refine (HA _).out.mono ?_; rintro e w1 ⟨rfl, hh, gg⟩))
      go_meet
      exact ⟨Rd.as HS1.out hh, gg⟩
  case rest =>
  obtain ⟨hh, gg⟩ := hcut
  have HS1 := Lib.hid hs1
  replace HH := Lib.hid hh
  replace G := Lib.hid (farE_x gg : FarX E X W wc)
  clear hh gg HA hs1 e4 e5 hq4 hx d0 d1
  obtain ⟨d0, d1⟩ := KB _ G.out
  go_upto_region 3 with fail
  obtain ⟨r2, hr2⟩ : ∃ r2, intAns (fb bs 1) 1 9 = r2 := ⟨_, rfl⟩
  have H := Lib.hid (q_number HH.out 1 (by omega) 1 9 (by decide) (by decide) r2 hr2)
  unfold Rdt rv at H
  have HR2' := Lib.hid hr2
  clear hr2
  go_upto_region 4 with (go_at_call 116; refine H.out.mono ?_; rintro e w2 ⟨rfl, hh, gg⟩; have k23 := hh.cellX 23 _ rfl; have f23 := hh.frozenX 23)
  have hh2 := hh.p_parts r2.1
  have g2 := farX_put (G.out.trans (farE_x gg)) 23 (.int .i64 r2.1)
  obtain ⟨s2, hs2⟩ : ∃ t : Rs, ({ s1.1 with parts := r2.1 }, s1.2 || badE r2.2) = t := ⟨_, rfl⟩
  replace hh2 := Rd.as hs2 hh2
  have HS2 := Lib.hid hs2
  replace HH := Lib.hid hh2
  replace G := Lib.hid g2
  clear hs2 hh2 g2 H hh gg k23 f23
  clear d0 d1
  obtain ⟨d0, d1⟩ := KB _ G.out
  have hr := int_in2 (fb bs 1) 1 9 (by decide) (by decide)
  rw [HR2'.out] at hr
  have k23 := HH.out.cellX 23 (.int .i64 s2.1.parts) rfl
  have hp : s2.1.parts = r2.1 := by rw [← HS2.out]
  rw [hp] at k23
  generalize w2.setCell ⟨X, 23, none⟩ (.int .i64 r2.1) = V at *
  obtain ⟨r3, hr3⟩ : ∃ r, intAns (fb bs 2) 1 r2.1 = r := ⟨_, rfl⟩
  have H := Lib.hid (q_number (HH.out.grew (Grew.refl V).drew) 2 (by omega) 1 r2.1 (by decide) (by omega) r3 hr3)
  unfold Rdt rv at H
  have HR3 := Lib.hid hr3
  have hXV := HH.out.hX
  have hBV : w.heap.size < V.heap.size := Nat.lt_of_lt_of_le ltW G.out.size
  have hEX := HH.out.EX
  have KS : ∀ w', FarE E V w' → (w'.cell? ⟨w.heap.size, 0, none⟩ = some (.slice (some ⟨S, 0, none⟩) n c) ∧ w'.cell? ⟨w.heap.size, 1, none⟩ = some (.func (.func 50) #[] #[.pointer (some ⟨E, 0, none⟩)])) ∧ w'.cell? ⟨X, 23, none⟩ = some (.int .i64 r2.1) := fun w' g =>
    ⟨KB w' (G.out.trans (farE_x g)), (g.cell (p := ⟨X, 23, none⟩) hXV (fun e => hEX e.symm)).trans k23⟩
  have KS2 : ∀ w' v, FarE E V w' → ((w'.setCell ⟨X, 24, none⟩ v).cell? ⟨w.heap.size, 0, none⟩ = some (.slice (some ⟨S, 0, none⟩) n c) ∧ (w'.setCell ⟨X, 24, none⟩ v).cell? ⟨w.heap.size, 1, none⟩ = some (.func (.func 50) #[] #[.pointer (some ⟨E, 0, none⟩)])) ∧ (w'.setCell ⟨X, 24, none⟩ v).cell? ⟨X, 23, none⟩ = some (.int .i64 r2.1) := fun w' v g =>
    ⟨KB _ (farX_put (G.out.trans (farE_x g)) 24 v), (World.cell?_setCell_other _ _ _ _ (fun e => by injection e; omega)).trans (KS w' g).2⟩
  have GD := HH.out.drew
  obtain ⟨s3, hs3⟩ : ∃ t : Rs, ({ s2.1 with part := r3.1 }, s2.2 || badE r3.2) = t := ⟨_, rfl⟩
  clear hr hp k23 hr3 d0 d1
  go_cut [37] (fun z wx => Rd wx S n c bs E X s3 ∧ FarX E X V wx)
  case first =>
    have HS3 := Lib.hid hs3
    clear hs3
    go_region_held3 (fun w' => (w'.cell? ⟨w.heap.size, 0, none⟩ = some (.slice (some ⟨S, 0, none⟩) n c) ∧ w'.cell? ⟨w.heap.size, 1, none⟩ = some (.func (.func 50) #[] #[.pointer (some ⟨E, 0, none⟩)])) ∧ w'.cell? ⟨X, 23, none⟩ = some (.int .i64 r2.1)) (first | exact KS _ GD | exact KS2 _ _ GD)
      (first | (go_at_call 116; refine H.out.mono ?_; rintro e w3 ⟨rfl, hh, gg⟩; replace GD := GD.trans gg; have k24 := hh.cellX 24 _ rfl; have f24 := hh.frozenX 24))
    all_goals
      go_wp2_with fail
      go_meet
      exact ⟨Rd.as HS3.out (hh.p_part r3.1), farX_put (farE_x GD) 24 _⟩
  case rest =>
  obtain ⟨hh, gg⟩ := hcut
  have HS3 := Lib.hid hs3
  replace HH := Lib.hid hh
  replace G := Lib.hid (G.out.trans gg)
  clear hh gg hs3 KS KS2 H GD hXV hBV hEX
  obtain ⟨d0, d1⟩ := KB _ G.out
  go_upto_region 5 with fail
  obtain ⟨r4, hr4⟩ : ∃ r4, intAns (fb bs 3) 0 99 = r4 := ⟨_, rfl⟩
  have H := Lib.hid (q_number HH.out 3 (by omega) 0 99 (by decide) (by decide) r4 hr4)
  unfold Rdt rv at H
  have HR4' := Lib.hid hr4
  clear hr4
  go_upto_region 6 with (go_at_call 116; refine H.out.mono ?_; rintro e w4 ⟨rfl, hh, gg⟩; have k17 := hh.cellX 17 _ rfl; have f17 := hh.frozenX 17)
  have hh2 := hh.p_sats r4.1
  have g2 := farX_put (G.out.trans (farE_x gg)) 17 (.int .i64 r4.1)
  obtain ⟨s4, hs4⟩ : ∃ t : Rs, ({ s3.1 with sats := r4.1 }, s3.2 || badE r4.2) = t := ⟨_, rfl⟩
  replace hh2 := Rd.as hs4 hh2
  have HS4 := Lib.hid hs4
  replace HH := Lib.hid hh2
  replace G := Lib.hid g2
  clear hs4 hh2 g2 H hh gg k17 f17
  clear d0 d1
  obtain ⟨d0, d1⟩ := KB _ G.out
  have k1 := HH.out.cellX 1 (.bool s4.1.valid) rfl
  have f1 := HH.out.frozenX 1
  go_wp2_with fail
  have hh2 := HH.out.p_valid (true)
  have g2 := farX_put G.out 1 (.bool (true))
  obtain ⟨s5, hs5⟩ : ∃ t : Rs, ({ s4.1 with valid := true }, s4.2) = t := ⟨_, rfl⟩
  replace hh2 := Rd.as hs5 hh2
  have HS5 := Lib.hid hs5
  replace HH := Lib.hid hh2
  replace G := Lib.hid g2
  clear hs5 hh2 g2 k1 f1
  go_returns
  have hh := HH.out
  have q := HM.out; clear HM; subst q
  have q := HQ.out; clear HQ; subst q
  have q := HS1.out; clear HS1; subst q
  have q := HR2'.out; clear HR2'; subst q
  have q := HS2.out; clear HS2; subst q
  have q := HR3.out; clear HR3; subst q
  have q := HS3.out; clear HS3; subst q
  have q := HR4'.out; clear HR4'; subst q
  have q := HS4.out; clear HS4; subst q
  have q := HS5.out; clear HS5; subst q
  exact ⟨rfl, hh, (Far.of_grew GW.out).trans G.out⟩

end
/- The program's sentences: GSA. -/
section
variable {w w' : World} {S n c E X : Nat} {bs : List ByteArray} {s : Rs}
set_option maxHeartbeats 4000000 in
set_option maxRecDepth 100000 in
theorem r_gsa (h : Rd w S n c bs E X s) (hn : 18 ≤ n) (h0 : s.1.sats = 0) : Calls Tryz.prog 93 #[rv S n c E, .pointer (some ⟨X, 0, none⟩)] w (Rdx w S n c bs E X (gsaOf (fb bs) s)) := by
  obtain ⟨W, hW, gW, ltW, d0, d1⟩ := boxR w S n c E
  have hEl := h.hE
  have hXl := h.hX
  have KB := box_keptX ltW (show w.heap.size ≠ E by omega) (show w.heap.size ≠ X by omega) d0 d1
  have HH := Lib.hid (h.grew gW)
  have GW := Lib.hid gW
  have G : Hid (FarX E X W W) := Lib.hid (Far.refl _ _)
  clear h gW
  unfold rv
  go_enter Tryz.func93, Tryz.ntmps93
  go_upto_region 1 with fail
  obtain ⟨r1, hr1⟩ : ∃ r1, oneOf (fb bs 1) (nat ⟨#[65, 77]⟩) = r1 := ⟨_, rfl⟩
  have H := Lib.hid (q_letter HH.out 1 (by omega) ⟨#[65, 77]⟩ (by decide) r1 hr1)
  unfold Rdt rv at H
  have HR1' := Lib.hid hr1
  clear hr1
  go_upto_region 2 with (go_at_call 118; refine H.out.mono ?_; rintro e w1 ⟨rfl, hh, gg⟩)
  have hh2 := hh
  have g2 := (G.out.trans (farE_x gg))
  obtain ⟨s1, hs1⟩ : ∃ t : Rs, (s.1, s.2 || badE r1.2) = t := ⟨_, rfl⟩
  replace hh2 := Rd.as hs1 hh2
  have HS1 := Lib.hid hs1
  replace HH := Lib.hid hh2
  replace G := Lib.hid g2
  clear hs1 hh2 g2 H hh gg 
  clear d0 d1
  obtain ⟨d0, d1⟩ := KB _ G.out
  obtain ⟨r2, hr2⟩ : ∃ r2, intAns (fb bs 2) 1 3 = r2 := ⟨_, rfl⟩
  have H := Lib.hid (q_number HH.out 2 (by omega) 1 3 (by decide) (by decide) r2 hr2)
  unfold Rdt rv at H
  have HR2' := Lib.hid hr2
  clear hr2
  go_upto_region 3 with (go_at_call 116; refine H.out.mono ?_; rintro e w2 ⟨rfl, hh, gg⟩; have k18 := hh.cellX 18 _ rfl; have f18 := hh.frozenX 18)
  have hh2 := hh.p_mode r2.1
  have g2 := farX_put (G.out.trans (farE_x gg)) 18 (.int .i64 r2.1)
  obtain ⟨s2, hs2⟩ : ∃ t : Rs, ({ s1.1 with mode := r2.1 }, s1.2 || badE r2.2) = t := ⟨_, rfl⟩
  replace hh2 := Rd.as hs2 hh2
  have HS2 := Lib.hid hs2
  replace HH := Lib.hid hh2
  replace G := Lib.hid g2
  clear hs2 hh2 g2 H hh gg k18 f18
  clear d0 d1
  obtain ⟨d0, d1⟩ := KB _ G.out
  have k1 := HH.out.cellX 1 (.bool s2.1.valid) rfl
  have f1 := HH.out.frozenX 1
  have k18 := HH.out.cellX 18 (.int .i64 s2.1.mode) rfl
  have f18 := HH.out.frozenX 18
  go_upto_region 4 with fail
  have hh2 := HH.out.p_valid (decide (1 < s2.1.mode))
  have g2 := farX_put G.out 1 (.bool (decide (1 < s2.1.mode)))
  obtain ⟨s3, hs3⟩ : ∃ t : Rs, ({ s2.1 with valid := decide (1 < s2.1.mode) }, s2.2) = t := ⟨_, rfl⟩
  replace hh2 := Rd.as hs3 hh2
  have HS3 := Lib.hid hs3
  replace HH := Lib.hid hh2
  replace G := Lib.hid g2
  clear hs3 hh2 g2 k1 f1 k18 f18
  clear d0 d1
  obtain ⟨d0, d1⟩ := KB _ G.out
  have hs0 : Hid (s3.1.sats = 0) := by show _ = _; rw [← HS3.out, ← HS2.out, ← HS1.out]; exact h0
  have HSB := fun k => Lib.hid (sats_in (fb bs) s3 hs0.out k)
  clear h0 hs0
  generalize (w2.setCell ⟨X, 18, none⟩ (.int .i64 r2.1)).setCell ⟨X, 1, none⟩ (.bool (decide (1 < s2.1.mode))) = V at *
  have GV : Hid (FarX E X V V) := Lib.hid (Far.refl _ _)
  clear d0 d1
  go_wp2_with fail
  go_loopw [4, 5, 6] (fun a p q wr => ∃ k : Nat, k ≤ 12 ∧ a = .int .i64 ((3 + k : Nat) : Int) ∧ Hid (Rd wr S n c bs E X (satsTo (fb bs) k s3)) ∧ Hid (FarX E X V wr)) (fun a _ _ _ => 15 - (intOf a).toNat)
  case atStart => exact ⟨0, by omega, rfl, HH, GV⟩
  case round =>
  obtain ⟨k, hk, rfl, HR, GR⟩ := hrel
  obtain ⟨d0, d1⟩ := KB _ (G.out.trans GR.out)
  by_cases hlt : k < 12
  · have c1 : ((3 + k : Nat) : Int) ≤ 14 := by omega
    have m1 : IntKind.i64.wrap (((3 + k : Nat) : Int) + 1) = ((3 + (k + 1) : Nat) : Int) := by rw [IntWalk.i64_in _ (by omega)]; omega
    obtain ⟨r, hr⟩ : ∃ r, intAns (fb bs (k + 3)) 1 999 = r := ⟨_, rfl⟩
    have H := Lib.hid (q_number HR.out (k + 3) (by omega) 1 999 (by decide) (by decide) r hr)
    unfold Rdt rv at H
    rw [Nat.add_comm k 3] at H hr
    have hb := (HSB k).out
    have HST := Lib.hid (show satsTo (fb bs) (k + 1) s3 = ({ (satsTo (fb bs) k s3).1 with sats := if (r.2 == 0) = true then (satsTo (fb bs) k s3).1.sats + 1 else (satsTo (fb bs) k s3).1.sats }, (satsTo (fb bs) k s3).2 || badE r.2) by
      rw [satsTo]
      unfold nHas nBad
      rw [show k + 3 = 3 + k by omega, hr])
    obtain ⟨t, ht⟩ : ∃ t : Rs, satsTo (fb bs) k s3 = t := ⟨_, rfl⟩
    rw [ht] at H hb HST HR
    have m2 : IntKind.i64.wrap (t.1.sats + 1) = t.1.sats + 1 := IntWalk.i64_in _ (by omega)
    obtain ⟨b, hb2⟩ : ∃ b, (r.2 == 0) = b := ⟨_, rfl⟩
    rw [hb2] at H HST
    clear hb hr ht HR hb2 HSB
    cases b
    · go_wp2_with (first | (go_at_call 116; refine H.out.mono ?_; rintro e w4 ⟨rfl, hh, gg⟩))
      go_roundw
      case rel => exact ⟨k + 1, by omega, by first | rfl | simp, Lib.hid (Rd.as (by rw [HST.out]; rfl) hh), Lib.hid (GR.out.trans (farE_x gg))⟩
      case measure => simp [intOf]; omega
    · go_wp2_with (first | (go_at_call 116; refine H.out.mono ?_; rintro e w4 ⟨rfl, hh, gg⟩; have k17 := hh.cellX 17 (.int .i64 t.1.sats) rfl; have f17 := hh.frozenX 17))
      go_roundw
      case rel => exact ⟨k + 1, by omega, by first | rfl | simp, Lib.hid (Rd.as (by rw [HST.out]; rfl) (hh.p_sats (t.1.sats + 1))), Lib.hid (farX_put (GR.out.trans (farE_x gg)) 17 _)⟩
      case measure => simp [intOf]; omega
  obtain rfl : k = 12 := by omega
  obtain ⟨s4, hs4⟩ : ∃ t : Rs, satsTo (fb bs) 12 s3 = t := ⟨_, rfl⟩
  have hh := HR.out
  rw [hs4] at hh
  have HS4 := Lib.hid hs4
  replace HH := Lib.hid hh
  replace G := Lib.hid (G.out.trans GR.out)
  clear hs4 hh HR GR HSB
  go_upto_region 10 with fail
  obtain ⟨u5, hu5⟩ : ∃ u5, uOf (fb bs) 15 2 = u5 := ⟨_, rfl⟩
  obtain ⟨b5, hb5⟩ : ∃ b5, unsBad (fb bs 15) 2 = b5 := ⟨_, rfl⟩
  have H := Lib.hid (q_unsigned HH.out 15 (by omega) 2 (by decide) u5 hu5 b5 hb5)
  unfold Rdt rv at H
  have HU5' := Lib.hid hu5
  clear hu5
  have HB5' := Lib.hid hb5
  clear hb5
  go_upto_region 11 with (go_at_call 114; refine H.out.mono ?_; rintro e w5 ⟨rfl, hh, gg⟩; have k20 := hh.cellX 20 _ rfl; have f20 := hh.frozenX 20)
  have hh2 := hh.p_pdop u5
  have g2 := farX_put (G.out.trans (farE_x gg)) 20 (.int .i64 u5)
  obtain ⟨s5, hs5⟩ : ∃ t : Rs, ({ s4.1 with pdop := u5 }, s4.2 || b5) = t := ⟨_, rfl⟩
  replace hh2 := Rd.as hs5 hh2
  have HS5 := Lib.hid hs5
  replace HH := Lib.hid hh2
  replace G := Lib.hid g2
  clear hs5 hh2 g2 H hh gg k20 f20
  clear d0 d1
  obtain ⟨d0, d1⟩ := KB _ G.out
  obtain ⟨u6, hu6⟩ : ∃ u6, uOf (fb bs) 16 2 = u6 := ⟨_, rfl⟩
  obtain ⟨b6, hb6⟩ : ∃ b6, unsBad (fb bs 16) 2 = b6 := ⟨_, rfl⟩
  have H := Lib.hid (q_unsigned HH.out 16 (by omega) 2 (by decide) u6 hu6 b6 hb6)
  unfold Rdt rv at H
  have HU6' := Lib.hid hu6
  clear hu6
  have HB6' := Lib.hid hb6
  clear hb6
  go_upto_region 12 with (go_at_call 114; refine H.out.mono ?_; rintro e w6 ⟨rfl, hh, gg⟩; have k21 := hh.cellX 21 _ rfl; have f21 := hh.frozenX 21)
  have hh2 := hh.p_hdop u6
  have g2 := farX_put (G.out.trans (farE_x gg)) 21 (.int .i64 u6)
  obtain ⟨s6, hs6⟩ : ∃ t : Rs, ({ s5.1 with hdop := u6 }, s5.2 || b6) = t := ⟨_, rfl⟩
  replace hh2 := Rd.as hs6 hh2
  have HS6 := Lib.hid hs6
  replace HH := Lib.hid hh2
  replace G := Lib.hid g2
  clear hs6 hh2 g2 H hh gg k21 f21
  clear d0 d1
  obtain ⟨d0, d1⟩ := KB _ G.out
  obtain ⟨u7, hu7⟩ : ∃ u7, uOf (fb bs) 17 2 = u7 := ⟨_, rfl⟩
  obtain ⟨b7, hb7⟩ : ∃ b7, unsBad (fb bs 17) 2 = b7 := ⟨_, rfl⟩
  have H := Lib.hid (q_unsigned HH.out 17 (by omega) 2 (by decide) u7 hu7 b7 hb7)
  unfold Rdt rv at H
  have HU7' := Lib.hid hu7
  clear hu7
  have HB7' := Lib.hid hb7
  clear hb7
  go_wp2_with (go_at_call 114; refine H.out.mono ?_; rintro e w7 ⟨rfl, hh, gg⟩; have k22 := hh.cellX 22 _ rfl; have f22 := hh.frozenX 22)
  have hh2 := hh.p_vdop u7
  have g2 := farX_put (G.out.trans (farE_x gg)) 22 (.int .i64 u7)
  obtain ⟨s7, hs7⟩ : ∃ t : Rs, ({ s6.1 with vdop := u7 }, s6.2 || b7) = t := ⟨_, rfl⟩
  replace hh2 := Rd.as hs7 hh2
  have HS7 := Lib.hid hs7
  replace HH := Lib.hid hh2
  replace G := Lib.hid g2
  clear hs7 hh2 g2 H hh gg k22 f22
  go_returns
  have hh := HH.out
  have q := HR1'.out; clear HR1'; subst q
  have q := HS1.out; clear HS1; subst q
  have q := HR2'.out; clear HR2'; subst q
  have q := HS2.out; clear HS2; subst q
  have q := HS3.out; clear HS3; subst q
  have q := HS4.out; clear HS4; subst q
  have q := HU5'.out; clear HU5'; subst q
  have q := HB5'.out; clear HB5'; subst q
  have q := HS5.out; clear HS5; subst q
  have q := HU6'.out; clear HU6'; subst q
  have q := HB6'.out; clear HB6'; subst q
  have q := HS6.out; clear HS6; subst q
  have q := HU7'.out; clear HU7'; subst q
  have q := HB7'.out; clear HB7'; subst q
  have q := HS7.out; clear HS7; subst q
  exact ⟨rfl, hh, (Far.of_grew GW.out).trans G.out⟩

end
end Go.Proofs.YtnhigfkhdmkoeaaGreatDoor

