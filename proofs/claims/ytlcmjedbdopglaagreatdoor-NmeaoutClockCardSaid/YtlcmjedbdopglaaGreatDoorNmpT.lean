/-
  The program's sentences: Parse, where there is no kind, or too few or too many fields.
  The program's sentences: Parse, of a kind that is known.
-/
import Derived.Test.YtlcmjedbdopglaaGreatDoorNmpR
import Derived.Test.YtlcmjedbdopglaaGreatDoorCellsW
import Derived.Test.YtlcmjedbdopglaaGreatDoorFlsD
import Derived.StillTailTactics
namespace Go.Proofs.YtlcmjedbdopglaaGreatDoor
open Go.RowKit
set_option linter.unusedVariables false

/- The program's sentences: Parse, where there is no kind, or too few or too many fields. -/
theorem told_one (F : Told) : F.cells.all (·.oneCell') = true := by kernel_rfl
theorem told_size (F : Told) : F.cells.size = 25 := rfl
theorem fix_zero : (∀ w, (zeroValue 36).run Tryz.prog w = .ok (.agg (Told.cells {})) w) ∧ (Tryz.prog.info? 36).map (·.size) = some 25 := zero_of_info (by kernel_rfl)
theorem fix_built0 : Tryz.prog.built 36 [] = some (Told.cells {}) := by kernel_rfl
theorem fix_built1 (n : Nat) : Tryz.prog.built 36 [(0, .int .u8 (n : Nat))] = some (Told.cells { kind := n }) := by kernel_rfl
theorem zero_cells {w : World} {b : Nat} (h : w.heap[b]? = some (.cells (Told.cells {}) 36)) : (w.cell? ⟨b, 0, none⟩ = some (.int .u8 0) ∧ w.cell? ⟨b, 1, none⟩ = some (.bool false) ∧ w.cell? ⟨b, 2, none⟩ = some (.bool false) ∧ w.cell? ⟨b, 3, none⟩ = some (.bool false) ∧ w.cell? ⟨b, 4, none⟩ = some (.bool false) ∧ w.cell? ⟨b, 5, none⟩ = some (.int .i64 0) ∧ w.cell? ⟨b, 6, none⟩ = some (.int .i64 0) ∧ w.cell? ⟨b, 7, none⟩ = some (.int .i64 0) ∧ w.cell? ⟨b, 8, none⟩ = some (.bool false) ∧ w.cell? ⟨b, 9, none⟩ = some (.int .i64 0) ∧ w.cell? ⟨b, 10, none⟩ = some (.int .i64 0) ∧ w.cell? ⟨b, 11, none⟩ = some (.int .i64 0) ∧ w.cell? ⟨b, 12, none⟩ = some (.int .i64 0) ∧ w.cell? ⟨b, 13, none⟩ = some (.int .i64 0) ∧ w.cell? ⟨b, 14, none⟩ = some (.int .i64 0) ∧ w.cell? ⟨b, 15, none⟩ = some (.int .i64 0) ∧ w.cell? ⟨b, 16, none⟩ = some (.int .i64 0) ∧ w.cell? ⟨b, 17, none⟩ = some (.int .i64 0) ∧ w.cell? ⟨b, 18, none⟩ = some (.int .i64 0) ∧ w.cell? ⟨b, 19, none⟩ = some (.int .i64 0) ∧ w.cell? ⟨b, 20, none⟩ = some (.int .i64 0) ∧ w.cell? ⟨b, 21, none⟩ = some (.int .i64 0) ∧ w.cell? ⟨b, 22, none⟩ = some (.int .i64 0) ∧ w.cell? ⟨b, 23, none⟩ = some (.int .i64 0) ∧ w.cell? ⟨b, 24, none⟩ = some (.int .i64 0)) ∧ w.frozen? ⟨b, 0, none⟩ = false ∧ w.frozen? ⟨b, 1, none⟩ = false ∧ w.frozen? ⟨b, 2, none⟩ = false ∧ w.frozen? ⟨b, 3, none⟩ = false ∧ w.frozen? ⟨b, 4, none⟩ = false ∧ w.frozen? ⟨b, 5, none⟩ = false ∧ w.frozen? ⟨b, 6, none⟩ = false ∧ w.frozen? ⟨b, 7, none⟩ = false ∧ w.frozen? ⟨b, 8, none⟩ = false ∧ w.frozen? ⟨b, 9, none⟩ = false ∧ w.frozen? ⟨b, 10, none⟩ = false ∧ w.frozen? ⟨b, 11, none⟩ = false ∧ w.frozen? ⟨b, 12, none⟩ = false ∧ w.frozen? ⟨b, 13, none⟩ = false ∧ w.frozen? ⟨b, 14, none⟩ = false ∧ w.frozen? ⟨b, 15, none⟩ = false ∧ w.frozen? ⟨b, 16, none⟩ = false ∧ w.frozen? ⟨b, 17, none⟩ = false ∧ w.frozen? ⟨b, 18, none⟩ = false ∧ w.frozen? ⟨b, 19, none⟩ = false ∧ w.frozen? ⟨b, 20, none⟩ = false ∧ w.frozen? ⟨b, 21, none⟩ = false ∧ w.frozen? ⟨b, 22, none⟩ = false ∧ w.frozen? ⟨b, 23, none⟩ = false ∧ w.frozen? ⟨b, 24, none⟩ = false := by
  refine ⟨⟨?_, ?_, ?_, ?_, ?_, ?_, ?_, ?_, ?_, ?_, ?_, ?_, ?_, ?_, ?_, ?_, ?_, ?_, ?_, ?_, ?_, ?_, ?_, ?_, ?_⟩, ?_, ?_, ?_, ?_, ?_, ?_, ?_, ?_, ?_, ?_, ?_, ?_, ?_, ?_, ?_, ?_, ?_, ?_, ?_, ?_, ?_, ?_, ?_, ?_, ?_⟩
  all_goals first | (simp [World.frozen?, h]; done) | (simp [World.cell?, h]; rfl)
/-- Nothing is written over nothing, cell by cell. -/
def zset (w : World) (b : Nat) : World := (((((((((((((((((((((((((w.setCell ⟨b, 0, none⟩ (.int .u8 0)).setCell ⟨b, 1, none⟩ (.bool false)).setCell ⟨b, 2, none⟩ (.bool false)).setCell ⟨b, 3, none⟩ (.bool false)).setCell ⟨b, 4, none⟩ (.bool false)).setCell ⟨b, 5, none⟩ (.int .i64 0)).setCell ⟨b, 6, none⟩ (.int .i64 0)).setCell ⟨b, 7, none⟩ (.int .i64 0)).setCell ⟨b, 8, none⟩ (.bool false)).setCell ⟨b, 9, none⟩ (.int .i64 0)).setCell ⟨b, 10, none⟩ (.int .i64 0)).setCell ⟨b, 11, none⟩ (.int .i64 0)).setCell ⟨b, 12, none⟩ (.int .i64 0)).setCell ⟨b, 13, none⟩ (.int .i64 0)).setCell ⟨b, 14, none⟩ (.int .i64 0)).setCell ⟨b, 15, none⟩ (.int .i64 0)).setCell ⟨b, 16, none⟩ (.int .i64 0)).setCell ⟨b, 17, none⟩ (.int .i64 0)).setCell ⟨b, 18, none⟩ (.int .i64 0)).setCell ⟨b, 19, none⟩ (.int .i64 0)).setCell ⟨b, 20, none⟩ (.int .i64 0)).setCell ⟨b, 21, none⟩ (.int .i64 0)).setCell ⟨b, 22, none⟩ (.int .i64 0)).setCell ⟨b, 23, none⟩ (.int .i64 0)).setCell ⟨b, 24, none⟩ (.int .i64 0))
set_option maxRecDepth 100000 in
theorem zset_far (w : World) (b : Nat) : Far (fun k => k = b) w (zset w b) := by
  unfold zset
  iterate 25 refine Far.setCell (F := fun k => k = b) ?_ rfl _
  exact Far.refl _ _
set_option maxRecDepth 100000 in
theorem zset_heap {w : World} {b : Nat} (h : w.heap[b]? = some (.cells (Told.cells {}) 36)) : (zset w b).heap[b]? = some (.cells (Told.cells {}) 36) := by
  have step : ∀ {v : World} (k : Nat) (x : Value), v.heap[b]? = some (.cells (Told.cells {}) 36) → (Told.cells {}).setIfInBounds k x = Told.cells {} → (v.setCell ⟨b, k, none⟩ x).heap[b]? = some (.cells (Told.cells {}) 36) := fun k x hv hx => by
    rw [heap_setCell_cells hv, hx]
  unfold zset
  iterate 25 refine step _ _ ?_ rfl
  exact h
/-- What a Parse has told. -/
def ParseT (s : ByteArray) (w : World) (e : Ending) (w' : World) : Prop := e = .returned (.tuple #[(parseOf s).1.value, .int .i64 ((parseOf s).2 : Nat)]) ∧ Grew w w'
theorem parts_first (s : ByteArray) : ∃ x, (partsB s)[0]? = some x := by
  have h := partsB_pos s
  exact ⟨_, List.getElem?_eq_getElem h⟩
theorem newZ (w : World) : ∃ W, w.alloc (.cells (Told.cells {}) 36) = W ∧ Grew w W ∧ W.heap.size = w.heap.size + 1 ∧ W.heap[w.heap.size]? = some (.cells (Told.cells {}) 36) :=
  ⟨_, rfl, (Grew.refl w).alloc _, by simp, heap_alloc_new w _⟩
theorem parse_zero {s : ByteArray} {e : Nat} (h : parseOf s = ({}, e)) {w W V : World} {b : Nat} (g : Grew w V) (hb : w.heap.size ≤ b) : ParseT s w (.returned (.tuple #[.agg (Told.cells {}), .int .i64 (e : Nat)])) (V.setRow b (Told.cells {})) := by
  refine ⟨by rw [h]; rfl, Far.grew (far_setRow V b _) g (fun k hk => by have hk' : k = b := hk; omega)⟩
set_option maxHeartbeats 4000000 in
set_option maxRecDepth 100000 in
theorem parse_none (s x0 : ByteArray) (w : World) (hs : s.size ≤ 1000) (h0 : (partsB s)[0]? = some x0) (hk : kindOfN (nat x0) = 0) : Calls Tryz.prog 8 #[.string s] w (ParseT s w) := by
  have hans : Hid (parseOf s = ({}, 7)) := by
    show _ = _
    unfold parseOf fixOf fieldsOf
    rw [if_pos]
    rw [List.getD_eq_getElem?_getD, List.getElem?_map, h0]
    exact hk
  obtain ⟨W, hW, gW, sW, zW⟩ := newZ w
  have hps := partsB_pos s
  have hx := partsB_size s x0 (List.mem_of_getElem? h0)
  have HS := fun w => Lib.hid (fld_Split s w hs)
  have HK : ∀ w, Hid (Calls Tryz.prog 20 #[.string x0] w fun e w' => e = .returned (.tuple #[zeroKind, .bool false]) ∧ Grew w w') := fun w => Lib.hid ((nk_kindOf x0 w (by omega)).mono fun e w' h => by
    rcases h with ⟨g, ⟨_, he⟩ | ⟨k, M, _, h2, _⟩⟩
    · exact ⟨he, g⟩
    · rw [hk] at h2; omega)
  unfold Parted at HS
  unfold zeroKind at HK
  have HZ := Lib.hid fix_zero.1
  have HI := Lib.hid fix_zero.2
  have HB := Lib.hid fix_built0
  have HPZ := fun V g => Lib.hid (parse_zero (w := w) (W := w) (V := V) (b := w.heap.size) hans.out g (Nat.le_refl _))
  have HC := Lib.hid (told_size {})
  have HO := Lib.hid (told_one {})
  obtain ⟨Z, hZ⟩ : ∃ Z, Told.cells {} = Z := ⟨_, rfl⟩
  rw [hZ] at HZ HB hW zW HPZ HC HO
  have HZZ := Lib.hid hZ
  clear hZ hs
  go_enter Tryz.func8, Tryz.ntmps8
  go_upto_region 1 with (refine wpList_alloc_as rfl 36 rfl Z HZ.out ?_)
  go_upto_region 2 with (first | (go_at_call 19; refine (HS _).out.mono ?_; rintro e w1 ⟨_, rfl, ⟨b1, c1, rfl, k1, l1, m1⟩, g1⟩))
  have y0 := m1 0 x0 h0
  obtain ⟨n, hn⟩ : ∃ n, (partsB s).length = n := ⟨_, rfl⟩
  rw [hn] at hps k1 ⊢
  have n0 : (0 : Int) < n := by omega
  have n1 : (0 : Int) < c1 := by omega
  have G1 := Lib.hid (gW.trans g1)
  have z1 := (g1.below.block _ (by omega)).trans zW
  have s1 : w.heap.size < w1.heap.size := by have := g1.size; omega
  clear hn hps k1 m1 HS g1 hW zW gW h0 hk hx
  go_upto_region 4 with (first | (go_at_call 20; refine (HK _).out.mono ?_; rintro e w2 ⟨rfl, g2⟩))
  have z2 := ((g2.trans ((Grew.refl w2).alloc (.cells #[.int .u8 0, .int .i64 0, .int .i64 0, .slice none 0 0, .nilFunc] 60))).below.block _ s1).trans z1
  have G2 := Lib.hid (G1.out.trans (g2.trans ((Grew.refl w2).alloc (.cells #[.int .u8 0, .int .i64 0, .int .i64 0, .slice none 0 0, .nilFunc] 60))))
  generalize w2.alloc (.cells #[.int .u8 0, .int .i64 0, .int .i64 0, .slice none 0 0, .nilFunc] 60) = V at *
  go_wp2_with (first | (refine wpList_build_as rfl 36 _ rfl Z [] rfl HB.out ?_) | (refine wpList_store_at rfl 36 _ _ rfl w.heap.size Z Z 36 z2 rfl rfl (by rw [HI.out, HC.out]) rfl HO.out ?_))
  refine bodyPost_ret (results_cell_tmp rfl _ _ w.heap.size Z 36 _ rfl (setRow_heap V w.heap.size Z Z _ _ z2) Tryz.underlying36 rfl (by rw [HI.out, HC.out])) rfl ?_
  exact (HPZ V G2.out).out
/- The program's sentences: Parse, of a kind that is known. -/
/-- Places of fields, in memory, wherever the error's variable will be. -/
def PlacesIn (w : World) (v : Value) (ps : List Nat) : Prop :=
  ∃ A c, v = .slice A ps.length c ∧ ps.length ≤ c ∧ (0 < ps.length → ∃ g, A = some ⟨g, 0, none⟩ ∧ g < w.heap.size ∧ ∀ (i : Nat) p, ps[i]? = some p → w.cell? ⟨g, i, none⟩ = some (.int .i64 (p : Nat)))
theorem PlacesIn.at_ {w w' : World} {v : Value} {ps : List Nat} (h : PlacesIn w v ps) (g : Grew w w') {E : Nat} (hE : w.heap.size ≤ E) : PlacesAt w' E v ps := by
  obtain ⟨A, c, rfl, hc, hr⟩ := h
  refine ⟨A, c, rfl, hc, fun h0 => ?_⟩
  obtain ⟨b, rfl, hb, hcell⟩ := hr h0
  exact ⟨b, rfl, Nat.lt_of_lt_of_le hb g.size, by omega, fun i p hp => (g.cell (p := ⟨b, i, none⟩) hb).trans (hcell i p hp)⟩
theorem needTo_fst (f : Nat → List Nat) (ps : List Nat) (s : Rs) : ∀ k, (needTo f ps k s).1 = s.1
  | 0 => rfl
  | k + 1 => needTo_fst f ps s k
/-- What a first field's kind is, as Parse takes it. -/
def KindIs (x0 : ByteArray) (num least most g : Nat) (ps : List Nat) : Prop :=
  ∀ w, Calls Tryz.prog 20 #[.string x0] w fun e w' => ∃ A m c, e = .returned (.tuple #[.agg #[.int .u8 (num : Nat), .int .i64 (least : Nat), .int .i64 (most : Nat), .slice A m c, .func (.func g) #[] #[]], .bool true]) ∧ PlacesIn w' (.slice A m c) ps ∧ Grew w w'
theorem parse_is {s x0 : ByteArray} (h0 : (partsB s)[0]? = some x0) {num : Nat} (hk : kindOfN (nat x0) = num) (hn : num ≠ 0) :
    parseOf s = if (partsB s).length - 1 < leastOf num then ({}, 4) else if mostOf num < (partsB s).length - 1 then ({}, 3) else if (readOf (fb (partsB s)) num ((partsB s).length - 1)).2 then ({}, 5) else ((readOf (fb (partsB s)) num ((partsB s).length - 1)).1, 0) := by
  have e : (fieldsOf s).getD 0 [] = nat x0 := by
    unfold fieldsOf
    rw [List.getD_eq_getElem?_getD, List.getElem?_map, h0]; rfl
  unfold parseOf fixOf
  rw [e, hk, if_neg hn]
  unfold fieldsOf
  rw [List.length_map]
  rfl
theorem newE (w : World) : ∃ W, w.alloc (.cells #[.int .i64 0] 23) = W ∧ Grew w W ∧ W.heap.size = w.heap.size + 1 ∧ W.heap[w.heap.size]? = some (.cells #[.int .i64 0] 23) :=
  newO w _
set_option maxHeartbeats 2000000 in
set_option maxRecDepth 100000 in
theorem parse_known (s x0 : ByteArray) (w : World) (hs : s.size ≤ 1000) (h0 : (partsB s)[0]? = some x0) (num least most g : Nat) (ps : List Nat) (rd : (Nat → List Nat) → Nat → Rs → Rs)
    (hk : kindOfN (nat x0) = num) (hnum : num ≠ 0 ∧ num < 256) (hl : leastOf num = least) (hm : mostOf num = most) (hb : 1 ≤ least ∧ least ≤ 100 ∧ most ≤ 100)
    (hps : ∀ (i : Nat) p, ps[i]? = some p → p ≤ least) (hpl : ps.length ≤ 100) (hrd : ∀ f n, readOf f num n = rd f n (needTo f ps ps.length ({ kind := num }, false)))
    (eg : ∀ args w, (callFunc g args).run Tryz.prog w = .ok (.enter g args) w) (hK : KindIs x0 num least most g ps)
    (hR : ∀ w S n c bs E X s', Rd w S n c bs E X s' → least + 1 ≤ n → s'.1.sats = 0 → Calls Tryz.prog g #[rv S n c E, .pointer (some ⟨X, 0, none⟩)] w (Rdx w S n c bs E X (rd (fb bs) (n - 1) s'))) :
    Calls Tryz.prog 8 #[.string s] w (ParseT s w) := by
  have hans := parse_is h0 hk hnum.1
  rw [hl, hm] at hans
  have HANS := Lib.hid hans
  clear hans hl hm
  obtain ⟨W, hW, gW, sW, zW⟩ := newZ w
  have hpos := partsB_pos s
  have hple : (partsB s).length ≤ 1001 := by have := partsB_le s; omega
  have hsm : ∀ (j : Nat) x, (partsB s)[j]? = some x → x.size ≤ 1000 := fun j x hx => Nat.le_trans (partsB_size s x (List.mem_of_getElem? hx)) hs
  have HS := fun w => Lib.hid (fld_Split s w hs)
  unfold KindIs at hK
  have HK := fun w => Lib.hid (hK w)
  unfold Parted at HS
  have HZ := Lib.hid fix_zero.1
  have HI := Lib.hid fix_zero.2
  have HB := Lib.hid fix_built0
  have HF := Lib.hid (fix_built1 num)
  have HPZ := fun e (he : parseOf s = ({}, e)) V g => Lib.hid (parse_zero (w := w) (W := w) (V := V) (b := w.heap.size) he g (Nat.le_refl _))
  have HC := Lib.hid (told_size {})
  have HO := Lib.hid (told_one {})
  have HCF := Lib.hid (told_size { kind := num })
  have HOF := Lib.hid (told_one { kind := num })
  obtain ⟨Z, hZ⟩ : ∃ Z, Told.cells {} = Z := ⟨_, rfl⟩
  rw [hZ] at HZ HB hW zW HPZ HC HO
  obtain ⟨F, hF⟩ : ∃ F, Told.cells { kind := num } = F := ⟨_, rfl⟩
  rw [hF] at HF HCF HOF
  have HFF := Lib.hid hF
  have HZZ := Lib.hid hZ
  clear hZ hs hF hK
  have HR := Lib.hid hR
  have HRD := Lib.hid hrd
  have HPS := Lib.hid hps
  clear hR hrd hps
  go_enter Tryz.func8, Tryz.ntmps8
  go_upto_region 1 with (refine wpList_alloc_as rfl 36 rfl Z HZ.out ?_)
  go_upto_region 2 with (first | (go_at_call 19; refine (HS _).out.mono ?_; rintro e w1 ⟨_, rfl, ⟨S, c1, rfl, k1, l1, m1⟩, g1⟩))
  have y0 := m1 0 x0 h0
  have M1 := Lib.hid m1
  have HSM := Lib.hid hsm
  obtain ⟨n, hn⟩ : ∃ n, (partsB s).length = n := ⟨_, rfl⟩
  rw [hn] at hpos hple k1 HANS ⊢
  have n0 : (0 : Int) < n := by omega
  have n1 : (0 : Int) < c1 := by omega
  have z1 := (g1.below.block _ (by omega)).trans zW
  have s1 : w.heap.size < w1.heap.size := by have := g1.size; omega
  have G1 := Lib.hid (gW.trans g1)
  have HLN := Lib.hid hn
  clear HS g1 hW zW gW sW h0 hk m1 hsm hn
  go_upto_region 5 with (first | (go_at_call 20; refine (HK _).out.mono ?_; rintro e w2 ⟨A, m, c, rfl, hP, g2⟩))
  have K3 := KAt.of (heap_alloc_new w2 (.cells #[.int .u8 (num : Nat), .int .i64 (least : Nat), .int .i64 (most : Nat), .slice A m c, .func (.func g) #[] #[]] 60))
  have g3 := (Grew.refl w2).alloc (.cells #[.int .u8 (num : Nat), .int .i64 (least : Nat), .int .i64 (most : Nat), .slice A m c, .func (.func g) #[] #[]] 60)
  generalize w2.alloc (.cells #[.int .u8 (num : Nat), .int .i64 (least : Nat), .int .i64 (most : Nat), .slice A m c, .func (.func g) #[] #[]] 60) = V3 at *
  have z3 := ((g2.trans g3).below.block _ s1).trans z1
  have G3 := Lib.hid (G1.out.trans (g2.trans g3))
  have hw2 : w.heap.size < w2.heap.size := Nat.lt_of_lt_of_le s1 g2.size
  obtain ⟨M, hM⟩ : ∃ M, n - 1 = M := ⟨_, rfl⟩
  have hx : IntKind.i64.wrap ((n : Int) - 1) = (M : Nat) := by rw [IntWalk.i64_in _ (by omega)]; omega
  rw [hM] at HANS
  have hnM : n = M + 1 := by omega
  have HN := Lib.hid hnM
  have L0 := Lib.hid l1
  have L1 := Lib.hid (Nat.lt_of_lt_of_le l1 (g2.trans g3).size)
  have GW13 := Lib.hid (g2.trans g3)
  have HP := Lib.hid hP
  have G23 := Lib.hid g3
  clear hM hnM l1 g2 g3 hP HK y0 n1 z1 s1 G1
  have HK3 := Lib.hid K3
  obtain ⟨ltK, q0, q1, q2, q3, q4, _⟩ := K3
  by_cases hsh : M < least
  · have c1' : (M : Int) < least := by omega
    have he : parseOf s = ({}, 4) := by rw [HANS.out, if_pos hsh]
    have HE := Lib.hid he
    clear he hsh HANS HR HRD HPS M1 L1 HP
    go_wp2_with (first | (refine wpList_build_as rfl 36 _ rfl Z [] rfl HB.out ?_) | (refine wpList_store_at rfl 36 _ _ rfl w.heap.size Z Z 36 z3 rfl rfl (by rw [HI.out, HC.out]) rfl HO.out ?_))
    refine bodyPost_ret (results_cell_tmp rfl _ _ w.heap.size Z 36 _ rfl (setRow_heap V3 w.heap.size Z Z _ _ z3) Tryz.underlying36 rfl (by rw [HI.out, HC.out])) rfl ?_
    exact (HPZ 4 HE.out V3 G3.out).out
  · have c1' : ¬ (M : Int) < least := by omega
    by_cases hlo : most < M
    · have c2' : (most : Int) < M := by omega
      have he : parseOf s = ({}, 3) := by rw [HANS.out, if_neg hsh, if_pos hlo]
      have HE := Lib.hid he
      clear he hsh hlo HANS HR HRD HPS M1 L1 HP
      go_wp2_with (first | (refine wpList_build_as rfl 36 _ rfl Z [] rfl HB.out ?_) | (refine wpList_store_at rfl 36 _ _ rfl w.heap.size Z Z 36 z3 rfl rfl (by rw [HI.out, HC.out]) rfl HO.out ?_))
      refine bodyPost_ret (results_cell_tmp rfl _ _ w.heap.size Z 36 _ rfl (setRow_heap V3 w.heap.size Z Z _ _ z3) Tryz.underlying36 rfl (by rw [HI.out, HC.out])) rfl ?_
      exact (HPZ 3 HE.out V3 G3.out).out
    · have c2' : ¬ (most : Int) < M := by omega
      have hans : parseOf s = if (readOf (fb (partsB s)) num M).2 then ({}, 5) else ((readOf (fb (partsB s)) num M).1, 0) := by rw [HANS.out, if_neg hsh, if_neg hlo]
      rw [HRD.out] at hans
      have HA2 := Lib.hid hans
      have HSH := Lib.hid hsh
      clear hans hlo HANS HRD hsh
      go_upto_region 10 with fail
      go_upto_region 12 with fail
      obtain ⟨V4, hV4, g4, s4, c4⟩ := newE V3
      rw [hV4]
      have S4 := Lib.hid s4
      have C4 := Lib.hid c4
      have HK4 := Lib.hid (HK3.out.grew g4)
      clear q0 q1 q2 q3 q4 hV4 s4 c4
      obtain ⟨_, q0, q1, q2, q3, q4, _⟩ := HK4.out
      go_upto_region 13 with (first | (refine wpList_build_as rfl 36 _ rfl F [(0, .int .u8 (num : Nat))] rfl HF.out ?_) | (refine wpList_alloc_as rfl 36 rfl Z HZ.out ?_) | (refine wpList_store_new rfl 36 _ _ rfl V4 F Z 36 rfl rfl rfl (by rw [HI.out, HCF.out]) (by rw [HC.out, HCF.out]) HOF.out ?_))
      obtain ⟨V5, hV5, g5, s5, c5⟩ := newO V4 (.cells F 36)
      rw [hV5]
      have S5 := Lib.hid s5
      have C5 := Lib.hid c5
      have HK5 := Lib.hid (HK4.out.grew g5)
      clear q0 q1 q2 q3 q4 hV5 s5 c5
      obtain ⟨_, q0, q1, q2, q3, q4, _⟩ := HK5.out
      go_upto_region 14 with fail
      obtain ⟨V6, hV6, g6, lt6, d0, d1⟩ := boxR V5 S n c1 V3.heap.size
      rw [hV6]
      clear hV6
      have s4 := S4.out
      have s5 := S5.out
      have HK6 := Lib.hid (HK4.out.grew (g5.trans g6))
      clear q0 q1 q2 q3 q4
      obtain ⟨_, q0, q1, q2, q3, q4, _⟩ := HK6.out
      have G36 := (g4.trans g5).trans g6
      have RD : Rd V6 S n c1 (partsB s) V3.heap.size V4.heap.size ({ kind := num }, false) := by
        refine ⟨HLN.out, k1, Nat.lt_of_lt_of_le L1.out G36.size, fun j x hx => ((GW13.out.trans G36).cell (p := ⟨S, j, none⟩) L0.out).trans (M1.out j x hx), HSM.out, hple, ?_, ?_, by have := L1.out; omega, by have := L1.out; omega, by omega⟩
        · rw [((g5.trans g6).below.block _ (by omega)).trans C4.out]; rfl
        · rw [(g6.below.block _ (by omega)).trans C5.out, HFF.out]
      have hPA := HP.out.at_ (G23.out.trans G36) (E := V3.heap.size) G23.out.size
      have HNEED := Lib.hid (r_need RD (.slice A m c) ps hPA (fun i p hp => by have := HPS.out i p hp; have := HN.out; have := HSH.out; omega) hpl)
      unfold Rdt rv at HNEED
      have hKB : w2.heap.size ≠ V3.heap.size := by omega
      have z6 := (G36.below.block _ (by omega)).trans z3
      have G6 := Lib.hid (G3.out.trans G36)
      have HRD6 := Lib.hid RD
      clear s4 s5 RD hPA
      go_upto_region 15 with (first | (go_at_call 22; refine HNEED.out.mono ?_; rintro e w7 ⟨rfl, hh, gg⟩))
      have S4' := S4.out
      have S5' := S5.out
      have hw6 : V3.heap.size < V6.heap.size := by omega
      have qq := (gg.cell (p := ⟨w2.heap.size, 4, none⟩) (by simp only; omega) hKB).trans q4
      have e0 := (gg.cell (p := ⟨V5.heap.size, 0, none⟩) lt6 (fun e => by have e' : V5.heap.size = V3.heap.size := e; omega)).trans d0
      have e1 := (gg.cell (p := ⟨V5.heap.size, 1, none⟩) lt6 (fun e => by have e' : V5.heap.size = V3.heap.size := e; omega)).trans d1
      have z7 := (gg.block w.heap.size (by omega) (fun e => by have e' : w.heap.size = V3.heap.size := e; omega)).trans z6
      have hne : w.heap.size ≠ V3.heap.size ∧ w.heap.size ≠ V4.heap.size ∧ w.heap.size < w7.heap.size := ⟨by omega, by omega, by have := gg.size; omega⟩
      have G7 := Lib.hid ((Far.of_grew G6.out).trans (farE_x (X := V4.heap.size) gg))
      have hEw : w.heap.size ≤ V3.heap.size ∧ w.heap.size ≤ V4.heap.size := ⟨by omega, by omega⟩
      obtain ⟨s7, hs7⟩ : ∃ t, needTo (fb (partsB s)) ps ps.length ({ kind := num }, false) = t := ⟨_, rfl⟩
      have h70 : s7.1.sats = 0 := by rw [← hs7, needTo_fst]
      rw [hs7] at hh HA2
      have HRUN := HR.out w7 S n c1 (partsB s) V3.heap.size V4.heap.size s7 hh (by have := HN.out; have := HSH.out; omega) h70
      rw [show n - 1 = M by have := HN.out; omega] at HRUN
      obtain ⟨s8, hs8⟩ : ∃ t, rd (fb (partsB s)) M s7 = t := ⟨_, rfl⟩
      rw [hs8] at HRUN HA2
      unfold Rdx rv at HRUN
      have HRUN2 := Lib.hid HRUN
      clear HRUN hs8 hs7 h70 hh gg S4' S5' hw6 d0 d1 q0 q1 q2 q3 q4 hKB z6 HNEED HRD6 HR
      go_upto_region 16 with (go_at_fn g; refine HRUN2.out.mono ?_; rintro e w8 ⟨rfl, h8, g8⟩)
      have z8 := (g8.block w.heap.size hne.2.2 (fun e => e.elim hne.1 hne.2.1)).trans z7
      have ke := h8.cellE
      have G8 := Lib.hid (Far.grew (G7.out.trans g8) (Grew.refl w) (fun k hk => hk.elim (fun e => e ▸ hEw.1) (fun e => e ▸ hEw.2)))
      have hX := h8.fix
      obtain ⟨⟨F8, b8⟩, hb8⟩ : ∃ t : Rs, s8 = t := ⟨_, rfl⟩
      subst hb8
      simp only at ke hX HA2
      have HC8 := Lib.hid (told_size F8)
      have HO8 := Lib.hid (told_one F8)
      have HT8 := Lib.hid (show F8.value = .agg F8.cells from rfl)
      clear h8 g8 z7 qq e0 e1 HRUN2
      cases b8
      · rw [if_neg (by simp)] at ke
        have he : parseOf s = (F8, 0) := by rw [HA2.out, if_neg (by simp)]
        have HE := Lib.hid he
        generalize Told.cells F8 = C8 at *
        clear he HA2
        go_wp2_with (first | (refine wpList_load_whole rfl 36 _ rfl V4.heap.size rfl C8 36 _ hX Tryz.underlying36 rfl (by rw [HI.out, HC8.out]) ?_) | (refine wpList_store_at rfl 36 _ _ rfl w.heap.size C8 Z 36 z8 rfl rfl (by rw [HI.out, HC8.out]) (by rw [HC.out, HC8.out]) HO8.out ?_))
        refine bodyPost_ret (results_cell_tmp rfl _ _ w.heap.size C8 36 _ rfl (setRow_heap w8 w.heap.size Z C8 _ _ z8) Tryz.underlying36 rfl (by rw [HI.out, HC8.out])) rfl ?_
        exact ⟨by rw [HE.out, HT8.out]; rfl, Far.grew (far_setRow w8 w.heap.size C8) G8.out (fun k hk => Nat.le_of_eq hk.symm)⟩
      · rw [if_pos rfl] at ke
        have he : parseOf s = ({}, 5) := by rw [HA2.out, if_pos rfl]
        have HE := Lib.hid he
        have hbz := HB.out
        clear he hX
        go_upto_region 17 with fail
        have hne1 := hne.1
        have hltE := World.block_lt_of_cell? _ _ ke
        have zd : w8.drew.heap[w.heap.size]? = some (.cells Z 36) := z8
        have ked : w8.drew.cell? ⟨V3.heap.size, 0, none⟩ = some (.int .i64 5) := ke
        have hke2 : (w8.drew.setRow w.heap.size Z).cell? ⟨V3.heap.size, 0, none⟩ = some (.int .i64 5) := (Far.cell (far_setRow w8.drew w.heap.size Z) (p := ⟨V3.heap.size, 0, none⟩) hltE (fun e => hne1 e.symm)).trans ked
        have hzr := setRow_heap w8.drew w.heap.size Z Z 36 (0, 0) zd
        have HQ := HPZ 5 HE.out w8.drew (G8.out.drew)
        clear hne z8 HF HCF HOF HFF HO8 HC8 HT8 HP HPS HSH M1 HSM HA2 C4 C5 S4 S5 HK3 HK4 HK5 HK6 hbz HPZ HE HN L0 L1 GW13 G23 G36 eg hb hnum
        refine wp_region_any (by kernel_rfl) ?_
        change wpAny _ _ _ _ _ _ _ (World.drew _)
        refine wpAny_take (i := 0) (v := .agg Z) rfl (by kernel_rfl) (by kernel_rfl) (by kernel_rfl) (fun _ _ _ h => h) (Or.inl ⟨by rfl, ?_⟩) ?_
        · intro w'
          rw [← HZZ.out]
          go_simp
          try rfl
        refine wpAny_ready (rs := [1, 2]) (by kernel_rfl) (by simp) ?_
        refine AllReady.cons rfl (fun K hK => ?_) (AllReady.cons rfl (fun K hK => ?_) AllReady.nil)
        · go_simp
          refine hK _ _ ?_
          clear hK K
          refine wpAny_ready (rs := [2]) (by kernel_rfl) (by simp) ?_
          refine AllReady.cons rfl (fun K hK => ?_) AllReady.nil
          rw [if_pos (by rfl)]
          refine wp_store_row 36 _ _ rfl w.heap.size Z rfl rfl 36 Z zd (by rw [HI.out, HC.out]) rfl HO.out ?_
          refine hK _ _ ?_
          clear hK K
          refine wpAny_ready (rs := [3]) (by kernel_rfl) (by simp) ?_
          refine AllReady.cons rfl (fun K hK => ?_) AllReady.nil
          go_simp
          refine hK _ _ ?_
          clear hK K
          refine wpAny_done (by kernel_rfl) ?_ _
          go_wp2_with fail
          refine bodyPost_ret (results_cell_tmp rfl _ _ w.heap.size Z 36 _ rfl hzr Tryz.underlying36 rfl (by rw [HI.out, HC.out])) rfl ?_
          exact HQ.out
        · rw [if_pos (by rfl)]
          refine wp_store_row 36 _ _ rfl w.heap.size Z rfl rfl 36 Z zd (by rw [HI.out, HC.out]) rfl HO.out ?_
          refine hK _ _ ?_
          clear hK K
          refine wpAny_ready (rs := [1]) (by kernel_rfl) (by simp) ?_
          refine AllReady.cons rfl (fun K hK => ?_) AllReady.nil
          go_simp
          refine hK _ _ ?_
          clear hK K
          refine wpAny_ready (rs := [3]) (by kernel_rfl) (by simp) ?_
          refine AllReady.cons rfl (fun K hK => ?_) AllReady.nil
          go_simp
          refine hK _ _ ?_
          clear hK K
          refine wpAny_done (by kernel_rfl) ?_ _
          go_wp2_with fail
          refine bodyPost_ret (results_cell_tmp rfl _ _ w.heap.size Z 36 _ rfl hzr Tryz.underlying36 rfl (by rw [HI.out, HC.out])) rfl ?_
          exact HQ.out
end Go.Proofs.YtlcmjedbdopglaaGreatDoor
