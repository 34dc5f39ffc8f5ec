/-
  Messages: what the program reads of a frame: which message it is, and its content.
-/
import Derived.Test.YtnhigfkhdmkoeaaGreatDoorP04
import Derived.Test.YtnhigfkhdmkoeaaGreatDoorP06
import Derived.Test.YtnhigfkhdmkoeaaGreatDoorP09
import Derived.Test.YtnhigfkhdmkoeaaGreatDoorP12
import Derived.Test.YtnhigfkhdmkoeaaGreatDoorP13
import Derived.Test.YtnhigfkhdmkoeaaGreatDoorP14

namespace Go.Proofs.YtnhigfkhdmkoeaaGreatDoor
open Go.RowKit
set_option linter.unusedVariables false

theorem drop_wd (S : List Nat) (k i : Nat) : wd (S.drop k) i = wd S (k + i) := by
  unfold wd
  rw [List.getD_eq_getElem?_getD, List.getD_eq_getElem?_getD, List.getElem?_drop]
theorem cont_zero : (∀ w, (zeroValue 44).run Tryz.prog w = .ok (.agg ((Told.cells {}).push (.slice none 0 0))) w) ∧ (Tryz.prog.info? 44).map (·.size) = some 26 := zero_of_info (by kernel_rfl)
theorem cont_built0 : Tryz.prog.built 44 [] = some ((Told.cells {}).push (.slice none 0 0)) := by kernel_rfl
theorem cont_builtF (F : Told) : Tryz.prog.built 44 [(0, .agg F.cells)] = some (F.cells.push (.slice none 0 0)) := by kernel_rfl
theorem cont_builtV (A : Option Addr) (n c : Nat) : Tryz.prog.built 44 [(1, .slice A n c)] = some ((Told.cells {}).push (.slice A n c)) := by kernel_rfl
theorem cont_size (F : Told) (v : Value) : (F.cells.push v).size = 26 := rfl
theorem cont_one (F : Told) (A : Option Addr) (n c : Nat) : (F.cells.push (.slice A n c)).all (·.oneCell') = true := by kernel_rfl
theorem load_row_ok {P : Program} (w : World) (g : Nat) (T ty : TypeId) (C : Array Value) (d : TypeDesc) (hg : w.heap[g]? = some (.cells C ty (0, 0))) (hu : P.underlying T = some d) (hd : (match d with | .struct _ | .array _ _ => true | _ => false) = true) (hi : (P.info? T).map (·.size) = some C.size) :
    (loadVar T ⟨g, 0, none⟩).run P w = .ok (.agg C) w := run_loadVar_row (P := P) w g ty T C (0, 0) d hg hu hd hi
theorem results_two_cells {fn : Func} {t1 t2 u : Tmp} {T1 T2 : TypeId} {P : Program} (h : fn.results = #[.cell t1 T1, .cell t2 T2, .tmp u]) (tmps : Array Value) (w : World) (g1 g2 : Nat) (C1 C2 : Array Value)
    (hx1 : tmps.getD t1 undef = .pointer (some ⟨g1, 0, none⟩)) (hx2 : tmps.getD t2 undef = .pointer (some ⟨g2, 0, none⟩)) (hl1 : (loadVar T1 ⟨g1, 0, none⟩).run P w = .ok (.agg C1) w) (hl2 : (loadVar T2 ⟨g2, 0, none⟩).run P w = .ok (.agg C2) w) :
    (results fn tmps).run P w = .ok (.tuple #[.agg C1, .agg C2, tmps.getD u undef]) w := by
  have hx1' : tmps[t1]?.getD undef = .pointer (some ⟨g1, 0, none⟩) := by simpa using hx1
  have hx2' : tmps[t2]?.getD undef = .pointer (some ⟨g2, 0, none⟩) := by simpa using hx2
  simp [results, h, hx1', hx2', asAddr, hl1, hl2, Result.andThen]
/-- The three variables at a begin. -/
theorem read_worlds (w : World) (x v : Value) (Z : Array Value) (E T1 T2 : TypeId) : ∃ W, ((w.alloc (.cells #[x, v] E)).alloc (.cells #[.int .u8 0, .int .u8 0, .int .u8 0] T1)).alloc (.cells Z T2) = W ∧ Grew w W ∧ W.heap.size = w.heap.size + 3 ∧ TwoC W w.heap.size x v ∧ W.heap[w.heap.size + 1]? = some (.cells key0 T1) ∧ W.heap[w.heap.size + 2]? = some (.cells Z T2) := by
  obtain ⟨W1, h1, g1, c1⟩ := twoC_new w x v E
  have s1 : W1.heap.size = w.heap.size + 1 := by rw [← h1]; simp
  have h2 := heap_alloc_new W1 (.cells key0 T1)
  have g2 := (Grew.refl W1).alloc (.cells key0 T1)
  have s2 : (W1.alloc (.cells key0 T1)).heap.size = w.heap.size + 2 := by simp [s1]
  have h3 := heap_alloc_new (W1.alloc (.cells key0 T1)) (.cells Z T2)
  have g3 := (Grew.refl (W1.alloc (.cells key0 T1))).alloc (.cells Z T2)
  refine ⟨(W1.alloc (.cells key0 T1)).alloc (.cells Z T2), by rw [h1]; rfl, g1.trans (g2.trans g3), by simp [s1], c1.far (Far.of_grew (F := fun _ => False) (g2.trans g3)) (fun q => q), ?_, ?_⟩
  · rw [s1] at h2
    exact (Below.block g3 (w.heap.size + 1) (by rw [s2]; omega)).trans h2
  · rw [s2] at h3
    exact h3
-- [NMEA
set_option maxRecDepth 1000000 in
set_option maxHeartbeats 4000000 in
theorem msg_read_nmea (v : Value) (S : List Nat) (w : World) (hr : Row .u8 w v S) (hl : (strOf S).size ≤ 2000) :
    Calls Tryz.prog 9 #[.agg #[.int .u8 1, v]] w fun e w' => e = .returned (.tuple #[.agg (keyC 1 0 (parseOf (strOf S)).1.kind), .agg ((parseOf (strOf S)).1.cells.push (.slice none 0 0)), .bool (((parseOf (strOf S)).2 : Int) == 0)]) ∧ Grew w w' := by
  have HP := fun w => prog_Parse (strOf S) w hl
  unfold ParseT Told.value at HP
  have HBt := Lib.hid (cont_builtF (parseOf (strOf S)).1)
  have HC2 := Lib.hid (cont_size (parseOf (strOf S)).1 (.slice none 0 0))
  have HO := Lib.hid (cont_one (parseOf (strOf S)).1 none 0 0)
  have HK0 : Hid ((parseOf (strOf S)).1.cells[0]? = some (.int .u8 ((parseOf (strOf S)).1.kind : Nat))) := Lib.hid rfl
  have HCs : Hid ((parseOf (strOf S)).1.cells.size = 25) := Lib.hid rfl
  have HoF := Lib.hid (told_one (parseOf (strOf S)).1)
  obtain ⟨er, her⟩ : ∃ er, (parseOf (strOf S)).2 = er := ⟨_, rfl⟩
  obtain ⟨kk, hkk⟩ : ∃ kk, (parseOf (strOf S)).1.kind = kk := ⟨_, rfl⟩
  rw [her] at HP ⊢
  rw [hkk] at HK0 ⊢
  obtain ⟨C2, hc2⟩ : ∃ C2, (parseOf (strOf S)).1.cells.push (.slice none 0 0) = C2 := ⟨_, rfl⟩
  rw [hc2] at HBt HC2 HO ⊢
  clear hc2 her hkk
  generalize (parseOf (strOf S)).1.cells = C at *
  replace HP := fun w => Lib.hid (HP w)
  have HIf := Lib.hid fix_zero.2
  have HZf := Lib.hid fix_zero.1
  obtain ⟨Zf, hzf⟩ : ∃ Z, Told.cells {} = Z := ⟨_, rfl⟩
  have hzs : Hid (Zf.size = 25) := Lib.hid (by rw [← hzf]; rfl)
  rw [hzf] at HZf
  have HI := Lib.hid cont_zero.2
  have HZ := Lib.hid cont_zero.1
  obtain ⟨Z, hz⟩ : ∃ Z, (Told.cells {}).push (.slice none 0 0) = Z := ⟨_, rfl⟩
  have hZs : Hid (Z.size = 26) := Lib.hid (by rw [← hz]; rfl)
  rw [hz] at HZ
  clear hz hzf
  have HR := Lib.hid hr
  obtain ⟨A, c, rfl, hc, hrow⟩ := hr
  clear hrow
  go_enter Tryz.func9, Tryz.ntmps9
  go_upto_region 1 with (refine wpList_alloc_as rfl 44 rfl Z HZ.out ?_)
  obtain ⟨W, hW, g0, sW, T0, z1, z2⟩ := read_worlds w (.int .u8 1) (.slice A S.length c) Z 24 38 44
  rw [hW]
  clear hW
  have T1 := Lib.hid T0
  obtain ⟨_, s0, s1, _, _⟩ := T0
  have HS := fun w' (G : Grew W w') => (Row.string w' (HR.out.grew (g0.trans G)) 22 5 Tryz.underlying22 Tryz.underlying5 9 Tryz.underlying9)
  have q1 := HS W (Grew.refl W)
  go_upto_region 4 with (first | (go_at_call 18; refine (HP _).out.mono ?_; rintro e w1 ⟨rfl, g1⟩) | (refine wpList_alloc_as rfl 42 rfl Zf HZf.out ?_) | (refine wpList_store_new rfl 42 _ _ rfl w1 C Zf 42 rfl rfl rfl (by rw [HIf.out, HCs.out]) (by rw [hzs.out, HCs.out]) HoF.out ?_))
  obtain ⟨V, hV, gV, sV, cV⟩ := newO w1 (.cells C 42)
  rw [hV]
  have G1 := Lib.hid (g1.trans gV)
  have l1 : w1.heap.size < V.heap.size := by omega
  have lw : w.heap.size + 3 ≤ w1.heap.size := by have := g1.size; omega
  clear hV q1 HS HP HR s0 s1
  have y0 := (G1.out.cell (p := ⟨w.heap.size, 0, none⟩) T1.out.lt).trans T1.out.c0
  have y1 := (Below.block (G1.out) (w.heap.size + 1) (by omega)).trans z1
  have y2 := (Below.block (G1.out) (w.heap.size + 2) (by omega)).trans z2
  have k0 : V.cell? ⟨w1.heap.size, 0, none⟩ = some (.int .u8 (kk : Nat)) := by rw [cell_of_row V w1.heap.size 0 _ _ _ cV]; exact HK0.out
  have GW := Lib.hid (g0.trans G1.out)
  have hM : Hid (∀ w', Far (PutF (mr4B w.heap.size (w.heap.size + 1) (w.heap.size + 2) w1.heap.size kk er C C2 Z)) V w' → w'.cell? ⟨w.heap.size, 0, none⟩ = some (.int .u8 1) ∧ w'.cell? ⟨w1.heap.size, 0, none⟩ = some (.int .u8 (kk : Nat)) ∧ w'.heap[w1.heap.size]? = some (.cells C 42)) := Lib.hid fun w' F => by
    have n0 : ¬ PutF (mr4B w.heap.size (w.heap.size + 1) (w.heap.size + 2) w1.heap.size kk er C C2 Z) w.heap.size := by rintro ⟨x, hx, e⟩; unfold mr4B at hx; simp only [List.mem_cons, List.not_mem_nil, or_false] at hx; rcases hx with rfl | rfl <;> simp only at e <;> omega
    have n1 : ¬ PutF (mr4B w.heap.size (w.heap.size + 1) (w.heap.size + 2) w1.heap.size kk er C C2 Z) w1.heap.size := by rintro ⟨x, hx, e⟩; unfold mr4B at hx; simp only [List.mem_cons, List.not_mem_nil, or_false] at hx; rcases hx with rfl | rfl <;> simp only at e <;> omega
    exact ⟨(F.cell (p := ⟨w.heap.size, 0, none⟩) (by show w.heap.size < V.heap.size; omega) n0).trans y0, (F.cell (p := ⟨w1.heap.size, 0, none⟩) l1 n1).trans k0, (F.block _ l1 n1).trans cV⟩
  clear T1 z1 z2 HK0 y0 k0 cV
  go_cut [2, 3, 4] (fun s t u wx => s = .pointer (some ⟨w.heap.size + 1, 0, none⟩) ∧ t = .pointer (some ⟨w.heap.size + 2, 0, none⟩) ∧ u = .bool ((er : Int) == 0) ∧ Hid (wx.heap[w.heap.size + 1]? = some (.cells (keyC 1 0 kk) 38)) ∧ Hid (wx.heap[w.heap.size + 2]? = some (.cells C2 44)) ∧ Hid (Grew w wx))
  case first =>
    refine wp_thenS (mr4_lay w.heap.size (w.heap.size + 1) (w.heap.size + 2) w1.heap.size kk er C C2 Z V (by omega) y1 y2 HI hZs HC2 HO HIf HCs HBt hM _ _ _ _ _ _ _ _ _ _ _ _ _ _ _ _ _ _ _ _ _ _ _ _ _ _ _ _ _ _ _ _ _ _ _ _ _ _ _ _ _ _ _ _ _ _ _ _ _ _ _ _ _ _ _ _ _ _ _ _ _ _ _ _ _ _ _ _ _ _ _ _ _ _ _ _ _ _ _ _ _ _ (fun wx s22 s23 s24 s25 s26 s27 s28 s29 s30 hF hC => ?_))
    go_wp2_with fail
    go_meet
    case rel => exact ⟨rfl, rfl, rfl, Lib.hid hC.1, Lib.hid hC.2, Lib.hid (hF.grew GW.out (fun k hk => by obtain ⟨x, hx, e⟩ := hk; unfold mr4B at hx; simp only [List.mem_cons, List.not_mem_nil, or_false] at hx; rcases hx with rfl | rfl <;> simp only at e <;> omega))⟩
  case rest =>
    obtain ⟨rfl, rfl, rfl, h1, h2, hg⟩ := hcut
    go_wp2_with fail
    refine bodyPost_ret (results_two_cells rfl _ _ (w.heap.size + 1) (w.heap.size + 2) (keyC 1 0 kk) C2 rfl rfl (load_row_ok _ _ _ _ _ _ h1.out Tryz.underlying38 rfl (by kernel_rfl)) (load_row_ok _ _ _ _ _ _ h2.out Tryz.underlying44 rfl (by rw [HI.out, HC2.out]))) rfl ?_
    exact ⟨rfl, hg.out⟩
-- NMEA]
-- [UBX
/-- What reading a frame of values tells. -/
def ReadV (a b c er : Nat) (zs : List Int) (w : World) (e : Ending) (w' : World) : Prop :=
  ∃ A sn sc, e = .returned (.tuple #[.agg (keyC a b c), .agg ((Told.cells {}).push (.slice A sn sc)), .bool ((er : Int) == 0)]) ∧ RowZ .i64 w' (.slice A sn sc) zs ∧ Grew w w'
set_option maxRecDepth 1000000 in
set_option maxHeartbeats 8000000 in
theorem msg_read_ubx (v : Value) (S : List Nat) (w : World) (hr : Row .u8 w v S) (hB : Bytes S) (hl : S.length ≤ 100000) (hl2 : 2 ≤ S.length) (a1 b1 er : Nat) (zs : List Int)
    (hz : ubxDec (wd S 0 * 256 + wd S 1) (S.drop 2) = (zs, er)) (ha1 : (if er = 0 then wd S 0 else 0) = a1) (hb1 : (if er = 0 then wd S 1 else 0) = b1) :
    Calls Tryz.prog 9 #[.agg #[.int .u8 2, v]] w (ReadV 2 a1 b1 er zs w) := by
  have HR := Lib.hid hr
  obtain ⟨A, c, rfl, hc, hrow⟩ := hr
  obtain ⟨b, o, rfl, hb, hcell⟩ := hrow (by omega)
  have x0 := hcell 0 (by omega)
  have x1 := hcell 1 (by omega)
  rw [Nat.add_zero] at x0
  have hl2' : ¬ (S.length : Int) < 2 := by omega
  clear hrow hcell
  have HI := Lib.hid cont_zero.2
  have HZ := Lib.hid cont_zero.1
  obtain ⟨Z, hz⟩ : ∃ Z, (Told.cells {}).push (.slice none 0 0) = Z := ⟨_, rfl⟩
  have hZs : Hid (Z.size = 26) := Lib.hid (by rw [← hz]; rfl)
  rw [hz] at HZ
  clear hz
  go_enter Tryz.func9, Tryz.ntmps9
  go_upto_region 1 with (refine wpList_alloc_as rfl 44 rfl Z HZ.out ?_)
  obtain ⟨W, hW, g0, sW, T0, z1, z2⟩ := read_worlds w (.int .u8 2) (.slice (some ⟨b, o, none⟩) S.length c) Z 24 38 44
  rw [hW]
  clear hW
  have T1 := Lib.hid T0
  obtain ⟨_, s0, s1, _, _⟩ := T0
  go_upto_region 8 with fail
  have hB2 : Bytes (S.drop 2) := fun i => by rw [drop_wd]; exact hB _
  have HCUT := ((HR.out.grew g0).cut 2 hl2)
  obtain ⟨o2, ho2⟩ : ∃ o2, o2 = if c = 2 then o else o + 2 := ⟨_, rfl⟩
  have ecut : (if c = 2 then (⟨b, o, none⟩ : Addr) else ⟨b, o + 2, none⟩) = ⟨b, o2, none⟩ := by rw [ho2]; split <;> rfl
  rw [ecut] at HCUT
  have HDEC := fun w' (G : Grew W w') => ubp_Decode (wd S 0) (wd S 1) _ (S.drop 2) w' (hB 0) (hB 1) (HCUT.grew G) hB2 (by rw [List.length_drop]; omega)
  unfold DecT at HDEC
  rw [hz] at HDEC
  simp only [ha1, hb1] at HDEC
  have y0 := (g0.cell (p := ⟨b, o, none⟩) hb).trans x0
  have y1 := (g0.cell (p := ⟨b, o + 1, none⟩) hb).trans x1
  have hbW := Nat.lt_of_lt_of_le hb g0.size
  have K := Lib.hid (fun w' (G : Grew W w') => (⟨(T1.out.grew G).c1, (G.cell (p := ⟨b, o, none⟩) hbW).trans y0, (G.cell (p := ⟨b, o + 1, none⟩) hbW).trans y1⟩ : w'.cell? ⟨w.heap.size, 1, none⟩ = some (.slice (some ⟨b, o, none⟩) S.length c) ∧ w'.cell? ⟨b, o, none⟩ = some (.int .u8 (wd S 0 : Nat)) ∧ w'.cell? ⟨b, o + 1, none⟩ = some (.int .u8 (wd S 1 : Nat))))
  have HD : Hid (∀ w', Grew W w' → Calls Tryz.prog 19 #[.int .u8 (wd S 0 : Nat), .int .u8 (wd S 1 : Nat), .slice (some ⟨b, o2, none⟩) (S.length - 2) (c - 2)] w' fun e w'' => ∃ zv, e = .returned (.tuple #[.agg #[.int .u8 (a1 : Nat), .int .u8 (b1 : Nat), zv], .int .i64 (er : Nat)]) ∧ RowN W w'' zv zs ∧ Grew w' w'') := Lib.hid fun w' G => (HDEC w' G).mono fun e w'' ⟨zv, q1, q2, q3, q4⟩ => ⟨zv, q1, ⟨q2, fun hn x hx => Nat.le_trans G.size (q3 hn x hx)⟩, q4⟩
  clear HCUT hB2 x0 x1 s0 HR HDEC ecut hz ha1 hb1 s1 y0 y1
  go_cut [7, 8] (fun s t wx => ∃ (p : Nat) (zv : Value), s = .pointer (some ⟨p, 0, none⟩) ∧ t = .int .i64 (er : Nat) ∧ W.heap.size ≤ p ∧ Hid (ThreeAt wx p (.int .u8 (a1 : Nat)) (.int .u8 (b1 : Nat)) zv) ∧ Hid (RowN W wx zv zs) ∧ Hid (Grew W wx))
  case first =>
    refine wp_thenS (mub_call w.heap.size b o o2 S.length c (wd S 0) (wd S 1) er _ _ zs W ho2 hl2 hc K HD _ _ _ _ _ _ _ _ _ _ _ _ _ _ _ _ _ _ _ _ _ _ _ _ _ _ _ _ _ _ _ _ _ _ _ _ _ _ _ _ _ _ _ _ _ _ _ _ _ _ _ _ _ _ _ _ _ _ _ _ _ _ _ _ _ _ _ _ _ _ _ _ _ _ _ _ _ _ _ _ _ _ _ _ _ _ (fun p zv wx s39 s40 s41 s42 s43 s44 s45 s46 s47 s48 s49 s50 s51 s52 s53 hWp hvar hrow hg => ?_))
    go_wp2_with fail
    go_meet
    case rel => exact ⟨p, zv, rfl, rfl, hWp, Lib.hid hvar, Lib.hid hrow, Lib.hid hg⟩
  case rest =>
    obtain ⟨p, zv, rfl, rfl, hWp, hvar, hrow, hg⟩ := hcut
    obtain ⟨V, hV⟩ : ∃ x, x = wc := ⟨_, rfl⟩
    subst hV
    obtain ⟨⟨ZA, zc, rfl, hzc, _⟩, _⟩ := id hrow.out
    generalize hsn : zs.length = sn at *
    have HBt := Lib.hid (cont_builtV ZA sn zc)
    have HC2 := Lib.hid (cont_size {} (.slice ZA sn zc))
    have HO := Lib.hid (cont_one {} ZA sn zc)
    have hpost : ∀ (e : Ending) (w' : World), e = .returned (.tuple #[.agg (keyC 2 a1 b1), .agg ((Told.cells {}).push (.slice ZA sn zc)), .bool ((er : Int) == 0)]) → RowZ .i64 w' (.slice ZA sn zc) zs → Grew w w' → ReadV 2 a1 b1 er zs w e w' := fun e w' q1 q2 q3 => ⟨ZA, sn, zc, q1, q2, q3⟩
    obtain ⟨C2, hc2⟩ : ∃ C2, (Told.cells {}).push (.slice ZA sn zc) = C2 := ⟨_, rfl⟩
    rw [hc2] at HBt HC2 HO hpost
    clear hc2
    have y0 := (hg.out.cell (p := ⟨w.heap.size, 0, none⟩) T1.out.lt).trans T1.out.c0
    have y1 := (Below.block hg.out (w.heap.size + 1) (by omega)).trans z1
    have y2 := (Below.block hg.out (w.heap.size + 2) (by omega)).trans z2
    have GW := Lib.hid (g0.trans hg.out)
    have lV := hg.out.size
    have hM : Hid (∀ w', Far (PutF (mr9B w.heap.size (w.heap.size + 1) (w.heap.size + 2) p a1 b1 er ZA sn zc C2 Z)) V w' → w'.cell? ⟨w.heap.size, 0, none⟩ = some (.int .u8 2) ∧ w'.cell? ⟨p, 0, none⟩ = some (.int .u8 (a1 : Nat)) ∧ w'.cell? ⟨p, 1, none⟩ = some (.int .u8 (b1 : Nat)) ∧ w'.cell? ⟨p, 2, none⟩ = some (.slice ZA sn zc)) := Lib.hid fun w' F => by
      have n0 : ¬ PutF (mr9B w.heap.size (w.heap.size + 1) (w.heap.size + 2) p a1 b1 er ZA sn zc C2 Z) w.heap.size := by rintro ⟨x, hx, e⟩; unfold mr9B at hx; simp only [List.mem_cons, List.not_mem_nil, or_false] at hx; rcases hx with rfl | rfl <;> simp only at e <;> omega
      have n1 : ¬ PutF (mr9B w.heap.size (w.heap.size + 1) (w.heap.size + 2) p a1 b1 er ZA sn zc C2 Z) p := by rintro ⟨x, hx, e⟩; unfold mr9B at hx; simp only [List.mem_cons, List.not_mem_nil, or_false] at hx; rcases hx with rfl | rfl <;> simp only at e <;> omega
      obtain ⟨lp, v0, v1, v2, _, _, _⟩ := hvar.out
      exact ⟨(F.cell (p := ⟨w.heap.size, 0, none⟩) (by show w.heap.size < V.heap.size; omega) n0).trans y0, (F.cell (p := ⟨p, 0, none⟩) lp n1).trans v0, (F.cell (p := ⟨p, 1, none⟩) lp n1).trans v1, (F.cell (p := ⟨p, 2, none⟩) lp n1).trans v2⟩
    have hrowF : Hid (∀ w', Far (PutF (mr9B w.heap.size (w.heap.size + 1) (w.heap.size + 2) p a1 b1 er ZA sn zc C2 Z)) V w' → RowZ .i64 w' (.slice ZA sn zc) zs) := Lib.hid fun w' F => (hrow.out.far F (fun k hk => by obtain ⟨x, hx, e⟩ := hk; unfold mr9B at hx; simp only [List.mem_cons, List.not_mem_nil, or_false] at hx; rcases hx with rfl | rfl <;> simp only at e <;> omega)).1
    clear T1 z1 z2 y0 K HD
    go_upto_region 9 with fail
    go_cut [2, 3, 4] (fun s t u wx => s = .pointer (some ⟨w.heap.size + 1, 0, none⟩) ∧ t = .pointer (some ⟨w.heap.size + 2, 0, none⟩) ∧ u = .bool ((er : Int) == 0) ∧ Hid (wx.heap[w.heap.size + 1]? = some (.cells (keyC 2 a1 b1) 38)) ∧ Hid (wx.heap[w.heap.size + 2]? = some (.cells C2 44)) ∧ Hid (Grew w wx) ∧ Hid (RowZ .i64 wx (.slice ZA sn zc) zs))
    case first =>
      refine wp_thenS (mr9_lay w.heap.size (w.heap.size + 1) (w.heap.size + 2) p a1 b1 er ZA sn zc C2 Z V (by omega) y1 y2 HI hZs HC2 HO HBt hM _ _ _ _ _ _ _ _ _ _ _ _ _ _ _ _ _ _ _ _ _ _ _ _ _ _ _ _ _ _ _ _ _ _ _ _ _ _ _ _ _ _ _ _ _ _ _ _ _ _ _ _ _ _ _ _ _ _ _ _ _ _ _ _ _ _ _ _ _ _ _ _ _ _ _ _ _ _ _ _ _ _ (fun wx s54 s55 s56 s57 s58 s59 s60 s61 s62 s63 s64 s65 hF hC => ?_))
      go_wp2_with fail
      go_meet
      case rel => exact ⟨rfl, rfl, rfl, Lib.hid hC.1, Lib.hid hC.2, Lib.hid (hF.grew GW.out (fun k hk => by obtain ⟨x, hx, e⟩ := hk; unfold mr9B at hx; simp only [List.mem_cons, List.not_mem_nil, or_false] at hx; rcases hx with rfl | rfl <;> simp only at e <;> omega)), Lib.hid (hrowF.out _ hF)⟩
    case rest =>
      obtain ⟨rfl, rfl, rfl, h1, h2, hg2, hr2⟩ := hcut
      go_wp2_with fail
      refine bodyPost_ret (results_two_cells rfl _ _ (w.heap.size + 1) (w.heap.size + 2) (keyC 2 a1 b1) C2 rfl rfl (load_row_ok _ _ _ _ _ _ h1.out Tryz.underlying38 rfl (by kernel_rfl)) (load_row_ok _ _ _ _ _ _ h2.out Tryz.underlying44 rfl (by rw [HI.out, HC2.out]))) rfl ?_
      exact hpost _ _ rfl hr2.out hg2.out
-- UBX]
-- [SIRF
set_option maxRecDepth 1000000 in
set_option maxHeartbeats 8000000 in
theorem msg_read_sirf (v : Value) (S : List Nat) (w : World) (hr : Row .u8 w v S) (hB : Bytes S) (hl : S.length ≤ 100000) (a1 er : Nat) (zs : List Int) (hzz : srfDec S = (a1, zs, er)) :
    Calls Tryz.prog 9 #[.agg #[.int .u8 3, v]] w (ReadV 3 0 a1 er zs w) := by
  have HR := Lib.hid hr
  obtain ⟨A, c, rfl, hc, hrow⟩ := hr
  clear hrow
  have HI := Lib.hid cont_zero.2
  have HZ := Lib.hid cont_zero.1
  obtain ⟨Z, hz⟩ : ∃ Z, (Told.cells {}).push (.slice none 0 0) = Z := ⟨_, rfl⟩
  have hZs : Hid (Z.size = 26) := Lib.hid (by rw [← hz]; rfl)
  rw [hz] at HZ
  clear hz
  go_enter Tryz.func9, Tryz.ntmps9
  go_upto_region 1 with (refine wpList_alloc_as rfl 44 rfl Z HZ.out ?_)
  obtain ⟨W, hW, g0, sW, T0, z1, z2⟩ := read_worlds w (.int .u8 3) (.slice A S.length c) Z 24 38 44
  rw [hW]
  clear hW
  have T1 := Lib.hid T0
  obtain ⟨_, s0, s1, _, _⟩ := T0
  have HDEC := Lib.hid (srp_Decode (.slice A S.length c) S W (HR.out.grew g0) hB hl)
  unfold DecS at HDEC
  rw [hzz] at HDEC
  clear hzz
  go_upto_region 12 with (go_at_call 20; refine HDEC.out.mono ?_; rintro e w1 ⟨zv, rfl, hrz, hfr, g1⟩; have hrn : Hid (RowN W w1 zv zs) := Lib.hid ⟨hrz, hfr⟩; obtain ⟨ZA, zc, rfl, hzc, _⟩ := hrz)
  obtain ⟨V, hV, gV, TV⟩ := twoC_new w1 (.int .u8 (a1 : Nat)) (.slice ZA zs.length zc) 68
  rw [hV]
  have G1 := Lib.hid (g1.trans gV)
  have lw : w.heap.size + 3 ≤ w1.heap.size := by have := g1.size; omega
  have l1 : w1.heap.size < V.heap.size := TV.lt
  have hrow := Lib.hid (hrn.out.grew gV)
  clear hV HR HDEC s0 s1 hrn hfr
  generalize hsn : zs.length = sn at *
  have HBt := Lib.hid (cont_builtV ZA sn zc)
  have HC2 := Lib.hid (cont_size {} (.slice ZA sn zc))
  have HO := Lib.hid (cont_one {} ZA sn zc)
  have hpost : ∀ (e : Ending) (w' : World), e = .returned (.tuple #[.agg (keyC 3 0 a1), .agg ((Told.cells {}).push (.slice ZA sn zc)), .bool ((er : Int) == 0)]) → RowZ .i64 w' (.slice ZA sn zc) zs → Grew w w' → ReadV 3 0 a1 er zs w e w' := fun e w' q1 q2 q3 => ⟨ZA, sn, zc, q1, q2, q3⟩
  obtain ⟨C2, hc2⟩ : ∃ C2, (Told.cells {}).push (.slice ZA sn zc) = C2 := ⟨_, rfl⟩
  rw [hc2] at HBt HC2 HO hpost
  clear hc2
  have y0 := (G1.out.cell (p := ⟨w.heap.size, 0, none⟩) T1.out.lt).trans T1.out.c0
  have y1 := (Below.block G1.out (w.heap.size + 1) (by omega)).trans z1
  have y2 := (Below.block G1.out (w.heap.size + 2) (by omega)).trans z2
  have GW := Lib.hid (g0.trans G1.out)
  have hM : Hid (∀ w', Far (PutF (mr12B w.heap.size (w.heap.size + 1) (w.heap.size + 2) w1.heap.size a1 er ZA sn zc C2 Z)) V w' → w'.cell? ⟨w.heap.size, 0, none⟩ = some (.int .u8 3) ∧ w'.cell? ⟨w1.heap.size, 0, none⟩ = some (.int .u8 (a1 : Nat)) ∧ w'.cell? ⟨w1.heap.size, 1, none⟩ = some (.slice ZA sn zc)) := Lib.hid fun w' F => by
    have n0 : ¬ PutF (mr12B w.heap.size (w.heap.size + 1) (w.heap.size + 2) w1.heap.size a1 er ZA sn zc C2 Z) w.heap.size := by rintro ⟨x, hx, e⟩; unfold mr12B at hx; simp only [List.mem_cons, List.not_mem_nil, or_false] at hx; rcases hx with rfl | rfl <;> simp only at e <;> omega
    have n1 : ¬ PutF (mr12B w.heap.size (w.heap.size + 1) (w.heap.size + 2) w1.heap.size a1 er ZA sn zc C2 Z) w1.heap.size := by rintro ⟨x, hx, e⟩; unfold mr12B at hx; simp only [List.mem_cons, List.not_mem_nil, or_false] at hx; rcases hx with rfl | rfl <;> simp only at e <;> omega
    exact ⟨(F.cell (p := ⟨w.heap.size, 0, none⟩) (by show w.heap.size < V.heap.size; omega) n0).trans y0, (F.cell (p := ⟨w1.heap.size, 0, none⟩) l1 n1).trans TV.c0, (F.cell (p := ⟨w1.heap.size, 1, none⟩) l1 n1).trans TV.c1⟩
  have hrowF : Hid (∀ w', Far (PutF (mr12B w.heap.size (w.heap.size + 1) (w.heap.size + 2) w1.heap.size a1 er ZA sn zc C2 Z)) V w' → RowZ .i64 w' (.slice ZA sn zc) zs) := Lib.hid fun w' F => (hrow.out.far F (fun k hk => by obtain ⟨x, hx, e⟩ := hk; unfold mr12B at hx; simp only [List.mem_cons, List.not_mem_nil, or_false] at hx; rcases hx with rfl | rfl <;> simp only at e <;> omega)).1
  clear T1 z1 z2 y0 TV
  go_cut [2, 3, 4] (fun s t u wx => s = .pointer (some ⟨w.heap.size + 1, 0, none⟩) ∧ t = .pointer (some ⟨w.heap.size + 2, 0, none⟩) ∧ u = .bool ((er : Int) == 0) ∧ Hid (wx.heap[w.heap.size + 1]? = some (.cells (keyC 3 0 a1) 38)) ∧ Hid (wx.heap[w.heap.size + 2]? = some (.cells C2 44)) ∧ Hid (Grew w wx) ∧ Hid (RowZ .i64 wx (.slice ZA sn zc) zs))
  case first =>
    refine wp_thenS (mr12_lay w.heap.size (w.heap.size + 1) (w.heap.size + 2) w1.heap.size a1 er ZA sn zc C2 Z V (by omega) y1 y2 HI hZs HC2 HO HBt hM _ _ _ _ _ _ _ _ _ _ _ _ _ _ _ _ _ _ _ _ _ _ _ _ _ _ _ _ _ _ _ _ _ _ _ _ _ _ _ _ _ _ _ _ _ _ _ _ _ _ _ _ _ _ _ _ _ _ _ _ _ _ _ _ _ _ _ _ _ _ _ _ _ _ _ _ _ _ _ _ _ _ (fun wx s74 s75 s76 s77 s78 s79 s80 s81 s82 s83 hF hC => ?_))
    go_wp2_with fail
    go_meet
    case rel => exact ⟨rfl, rfl, rfl, Lib.hid hC.1, Lib.hid hC.2, Lib.hid (hF.grew GW.out (fun k hk => by obtain ⟨x, hx, e⟩ := hk; unfold mr12B at hx; simp only [List.mem_cons, List.not_mem_nil, or_false] at hx; rcases hx with rfl | rfl <;> simp only at e <;> omega)), Lib.hid (hrowF.out _ hF)⟩
  case rest =>
    obtain ⟨rfl, rfl, rfl, h1, h2, hg2, hr2⟩ := hcut
    go_wp2_with fail
    refine bodyPost_ret (results_two_cells rfl _ _ (w.heap.size + 1) (w.heap.size + 2) (keyC 3 0 a1) C2 rfl rfl (load_row_ok _ _ _ _ _ _ h1.out Tryz.underlying38 rfl (by kernel_rfl)) (load_row_ok _ _ _ _ _ _ h2.out Tryz.underlying44 rfl (by rw [HI.out, HC2.out]))) rfl ?_
    exact hpost _ _ rfl hr2.out hg2.out
-- SIRF]
-- [OTHER
theorem key_cells {w : World} {b : Nat} {T : TypeId} (h : w.heap[b]? = some (.cells key0 T)) : w.cell? ⟨b, 0, none⟩ = some (.int .u8 0) ∧ w.cell? ⟨b, 1, none⟩ = some (.int .u8 0) ∧ w.cell? ⟨b, 2, none⟩ = some (.int .u8 0) ∧ w.frozen? ⟨b, 0, none⟩ = false ∧ w.frozen? ⟨b, 1, none⟩ = false ∧ w.frozen? ⟨b, 2, none⟩ = false := by
  refine ⟨?_, ?_, ?_, ?_, ?_, ?_⟩ <;> simp [World.cell?, World.frozen?, h, key0]
/-- The empty key laid, the empty content laid. -/
theorem none_laid {w W : World} {p : Nat} {Z : Array Value} {T1 T2 : TypeId} (g : Grew w W) (hp : w.heap.size ≤ p) (z1 : W.heap[p]? = some (.cells key0 T1)) (z2 : W.heap[p + 1]? = some (.cells Z T2)) :
    let W3 := ((W.setCell ⟨p, 0, none⟩ (.int .u8 0)).setCell ⟨p, 1, none⟩ (.int .u8 0)).setCell ⟨p, 2, none⟩ (.int .u8 0)
    W3.heap[p + 1]? = some (.cells Z T2) ∧ (W3.setRow (p + 1) Z).heap[p]? = some (.cells (keyC 0 0 0) T1) ∧ (W3.setRow (p + 1) Z).heap[p + 1]? = some (.cells Z T2) ∧ Grew w (W3.setRow (p + 1) Z) := by
  intro W3
  have F : Far (fun k => k = p) W W3 := (((Far.refl (fun x => x = p) W).setCell (p := ⟨p, 0, none⟩) rfl _).setCell (p := ⟨p, 1, none⟩) rfl _).setCell (p := ⟨p, 2, none⟩) rfl _
  have h2 : W3.heap[p + 1]? = some (.cells Z T2) := (F.block (p + 1) (Array.getElem?_eq_some_iff.1 z2).1 (by omega)).trans z2
  have h1 : W3.heap[p]? = some (.cells (keyC 0 0 0) T1) := heap_setCell_cells (heap_setCell_cells (heap_setCell_cells z1 _) _) _
  refine ⟨h2, ?_, setRow_heap W3 (p + 1) Z Z T2 (0, 0) h2, ?_⟩
  · rw [setRow_other _ _ _ _ (by omega)]; exact h1
  · exact Far.grew (far_setRow W3 (p + 1) Z) (Far.grew F g (fun k hk => by subst hk; exact hp)) (fun k hk => by subst hk; omega)
set_option maxRecDepth 1000000 in
set_option maxHeartbeats 8000000 in
theorem msg_read_no (k : Nat) (v : Value) (S : List Nat) (w : World) (hr : Row .u8 w v S) (hk : (k = 2 ∧ S.length < 2) ∨ (k ≠ 1 ∧ k ≠ 2 ∧ k ≠ 3)) :
    Calls Tryz.prog 9 #[.agg #[.int .u8 (k : Nat), v]] w fun e w' => e = .returned (.tuple #[.agg (keyC 0 0 0), .agg ((Told.cells {}).push (.slice none 0 0)), .bool false]) ∧ Grew w w' := by
  obtain ⟨A, c, rfl, hc, hrow⟩ := hr
  clear hrow
  have HI := Lib.hid cont_zero.2
  have HZ := Lib.hid cont_zero.1
  have HBt := Lib.hid cont_built0
  have HO := Lib.hid (cont_one {} none 0 0)
  obtain ⟨Z, hz⟩ : ∃ Z, (Told.cells {}).push (.slice none 0 0) = Z := ⟨_, rfl⟩
  have hZs : Hid (Z.size = 26) := Lib.hid (by rw [← hz]; rfl)
  rw [hz] at HZ HBt HO ⊢
  clear hz
  generalize S.length = n at *
  rcases hk with ⟨rfl, hk⟩ | ⟨n1, n2, n3⟩
  · have hk2 : (n : Int) < 2 := by omega
    go_enter Tryz.func9, Tryz.ntmps9
    go_upto_region 1 with (refine wpList_alloc_as rfl 44 rfl Z HZ.out ?_)
    obtain ⟨W, hW, g0, sW, T0, z1, z2⟩ := read_worlds w (.int .u8 2) (.slice A n c) Z 24 38 44
    rw [hW]
    clear hW
    obtain ⟨_, s0, s1, _, _⟩ := T0
    obtain ⟨c0, c1, c2, f0, f1, f2⟩ := key_cells z1
    obtain ⟨l1, l2, l3, l4⟩ := none_laid g0 (Nat.le_succ _) z1 z2
    go_wp2_with (first | (refine wpList_build_as rfl 44 _ rfl Z [] rfl HBt.out ?_) | (refine wpList_store_at rfl 44 _ _ rfl (w.heap.size + 1 + 1) Z Z 44 l1 rfl rfl (by rw [HI.out, hZs.out]) rfl HO.out ?_))
    refine bodyPost_ret (results_two_cells rfl _ _ (w.heap.size + 1) (w.heap.size + 1 + 1) (keyC 0 0 0) Z rfl rfl (load_row_ok _ _ _ _ _ _ l2 Tryz.underlying38 rfl (by kernel_rfl)) (load_row_ok _ _ _ _ _ _ l3 Tryz.underlying44 rfl (by rw [HI.out, hZs.out]))) rfl ?_
    exact ⟨rfl, l4⟩
  · have m1 : ((k : Int) == 1) = false := by simp; omega
    have m2 : ((k : Int) == 2) = false := by simp; omega
    have m3 : ((k : Int) == 3) = false := by simp; omega
    go_enter Tryz.func9, Tryz.ntmps9
    go_upto_region 1 with (refine wpList_alloc_as rfl 44 rfl Z HZ.out ?_)
    obtain ⟨W, hW, g0, sW, T0, z1, z2⟩ := read_worlds w (.int .u8 (k : Nat)) (.slice A n c) Z 24 38 44
    rw [hW]
    clear hW
    obtain ⟨_, s0, s1, _, _⟩ := T0
    obtain ⟨c0, c1, c2, f0, f1, f2⟩ := key_cells z1
    obtain ⟨l1, l2, l3, l4⟩ := none_laid g0 (Nat.le_succ _) z1 z2
    go_wp2_with (first | (refine wpList_build_as rfl 44 _ rfl Z [] rfl HBt.out ?_) | (refine wpList_store_at rfl 44 _ _ rfl (w.heap.size + 1 + 1) Z Z 44 l1 rfl rfl (by rw [HI.out, hZs.out]) rfl HO.out ?_))
    refine bodyPost_ret (results_two_cells rfl _ _ (w.heap.size + 1) (w.heap.size + 1 + 1) (keyC 0 0 0) Z rfl rfl (load_row_ok _ _ _ _ _ _ l2 Tryz.underlying38 rfl (by kernel_rfl)) (load_row_ok _ _ _ _ _ _ l3 Tryz.underlying44 rfl (by rw [HI.out, hZs.out]))) rfl ?_
    exact ⟨rfl, l4⟩
-- OTHER]
end Go.Proofs.YtnhigfkhdmkoeaaGreatDoor

