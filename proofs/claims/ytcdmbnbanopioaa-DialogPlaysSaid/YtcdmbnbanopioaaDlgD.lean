/-
  The document's dialogue: a command is sent.
-/
import Derived.Test.YtcdmbnbanopioaaDlgP
import Derived.Deep.CutBlock
import Derived.Deep.DeepCutAuto
import Derived.Deep.RegionHeldLaw
namespace Go.Proofs.Ytcdmbnbanopioaa
open Go.RowKit
set_option linter.unusedVariables false

theorem own_form {w : World} {base E size : Nat} {v : Value} {n : Nat} {xs : List Value} (h : w.ownsRow base E size v (0 + n) xs) (hn : v ≠ .slice none 0 0) :
    ∃ g c, v = .slice (some ⟨g, 0, none⟩) n c ∧ base ≤ g ∧ g < w.heap.size ∧ n ≤ c := by
  rw [Nat.zero_add] at h
  rcases h.2 with ⟨e, _⟩ | ⟨g, cap, _, hv, hg, hh, hc, _⟩
  · exact absurd e hn
  · exact ⟨g, cap, hv, hg, (Array.getElem?_eq_some_iff.1 hh).1, hc⟩

theorem infoRow14 : (Try.prog.info? 59).map (fun i => (i.zero, i.size, i.bytes)) = some (some (.agg #[.slice none 0 0, .int .u8 0, .int .u8 0, .int .u8 0, .int .i64 0, .int .i64 0, .int .i64 0]), 7, 56) := by kernel_rfl
def SendTells (X : Nat → Prop) (g : Nat) (d : Dlg) (i : Nat) (w : World) (e : Ending) (w' : World) : Prop :=
  ∃ L' fv r, d.rows[i]? = some r ∧ e = .returned (.tuple #[fv, .bool true]) ∧ Row .u8 w' fv r.c.b ∧ (∀ b, fv.ownBlock = some b → X b) ∧
    DlgAt X w' g L' ⟨d.rows.set i (sentOf d.now r), d.tmo, d.tries, d.now, d.came⟩ ∧ (∀ b, L'.ownBlock = some b → w.heap.size ≤ b) ∧ Far (fun k => k = g) w w'
set_option maxRecDepth 100000 in
set_option maxHeartbeats 4000000 in
theorem ref14_send (X : Nat → Prop) (g : Nat) (L : Value) (d : Dlg) (i : Nat) (w : World) (h : DlgAt X w g L d) (hi : i < d.rows.length) (hm : d.rows[i].many < 100) (hX : ∀ b, X b → b < w.heap.size) :
    Calls Try.prog 31 #[.pointer (some ⟨g, 0, none⟩), .int .i64 (i : Nat)] w (SendTells X g d i w) := by
  have hrows := h.rows
  obtain ⟨vs, hvl, hflat, hok⟩ := hrows.flat
  obtain ⟨b, o, c, fv, rfl, hc, ⟨⟨hb, q0, q1, q2, q3, qr, kw, kc, ki⟩, q4, q5, q6, ks, kt, km⟩, hXf⟩ := hrows.at_ i hi
  have lt := h.lt
  have c0 := h.c0
  have c3 := h.c3
  have f0 := h.f0
  have kl := h.kl
  have HH := Lib.hid h
  clear h
  obtain ⟨A2, c2, rfl, hc2, _⟩ := id qr
  generalize hr : d.rows[i] = r at *
  obtain ⟨⟨rb, rwait, rcls, rid⟩, rst, rsent, rmany⟩ := r
  simp only at q1 q2 q3 q4 q5 q6 kw kc ki ks kt km hm qr
  by_cases hw : rwait = 0
  · subst hw
    go_enter Try.func31, Try.ntmps31
    go_upto_region 7 with fail
    have hk0 : ∀ j x, (rowCells (sentOf d.now ⟨⟨rb, 0, rcls, rid⟩, rst, rsent, rmany⟩) (.slice A2 rb.length c2))[j]? = some x → (w.alloc (.cells (rowCells (sentOf d.now ⟨⟨rb, 0, rcls, rid⟩, rst, rsent, rmany⟩) (.slice A2 rb.length c2)).toArray 59)).cell? ⟨w.heap.size, j, none⟩ = some x := fun j x hx => by simp only [World.cell?_alloc_new]; simpa using hx
    have G1 := (Grew.refl w).alloc (.cells (rowCells (sentOf d.now ⟨⟨rb, 0, rcls, rid⟩, rst, rsent, rmany⟩) (.slice A2 rb.length c2)).toArray 59)
    have hs1 : (w.alloc (.cells (rowCells (sentOf d.now ⟨⟨rb, 0, rcls, rid⟩, rst, rsent, rmany⟩) (.slice A2 rb.length c2)).toArray 59)).heap.size = w.heap.size + 1 := by simp
    replace hk0 := (⟨hk0 0 _ rfl, hk0 1 _ rfl, hk0 2 _ rfl, hk0 3 _ rfl, hk0 4 _ rfl, hk0 5 _ rfl, hk0 6 _ rfl⟩ : _ ∧ _ ∧ _ ∧ _ ∧ _ ∧ _ ∧ _)
    have eW : w.alloc (.cells (rowCells (sentOf d.now ⟨⟨rb, 0, rcls, rid⟩, rst, rsent, rmany⟩) (.slice A2 rb.length c2)).toArray 59) = w.alloc (Obj.cells #[Value.slice A2 rb.length c2, Value.int IntKind.u8 0, Value.int IntKind.u8 ↑rcls, Value.int IntKind.u8 ↑rid, Value.int IntKind.i64 2, Value.int IntKind.i64 d.now, Value.int IntKind.i64 (↑rmany + 1)] 59) := rfl
    rw [eW] at hk0 G1 hs1
    generalize w.alloc (Obj.cells #[Value.slice A2 rb.length c2, Value.int IntKind.u8 0, Value.int IntKind.u8 ↑rcls, Value.int IntKind.u8 ↑rid, Value.int IntKind.i64 2, Value.int IntKind.i64 d.now, Value.int IntKind.i64 (↑rmany + 1)] 59) = w1 at hk0 G1 hs1 ⊢
    clear eW
    have HS1 := Lib.hid hs1
    clear hs1
    have hone : ∀ x ∈ flatC d.rows vs, x.oneCell' = true := flatC_one _ _ (vs_one hvl hok)
    have hO : (w1.alloc (.cells #[] 59)).ownsRow w1.heap.size 59 7 (.slice (some ⟨w1.heap.size, 0, none⟩) 0 0) 0 [] := ⟨rfl, .inr ⟨_, 0, #[], rfl, Nat.le_refl _, heap_alloc_new w1 _, Nat.le_refl _, Nat.zero_le _, rfl, rfl⟩⟩
    have D0 := G1.alloc (.cells #[] 59)
    have hflat1 : CellsAt (w1.alloc (.cells #[] 59)) 7 (.slice (some ⟨b, o, none⟩) d.rows.length c) d.rows.length (flatC d.rows vs) := hflat.far (F := fun _ => False) (Far.of_grew D0) (fun _ _ h => h)
    have c1 := (G1.cell (p := ⟨g, 0, none⟩) lt).trans c0
    have lt1 := Nat.lt_of_lt_of_le lt G1.size
    have cc := (D0.cell (p := ⟨g, 0, none⟩) lt).trans c0
    have lt2 := Nat.lt_of_lt_of_le lt D0.size
    go_wp2_with (refine wpList_joinC _ rfl _ _ 55 rfl w1.heap.size 59 _ 7 56 rfl infoRow14 rfl (by decide) (.slice (some ⟨w1.heap.size, 0, none⟩) 0 0) 0 [] rfl hO (.slice (some ⟨b, o, none⟩) d.rows.length c) d.rows.length (flatC d.rows vs) rfl hflat1 hone (by unfold maxLen; omega) (by omega) (by simp) ?_; intro v2 w2 hown2 hgrow2 hnil2; have G12 : Grew w1 w2 := Below.grown ((Grew.refl w1).alloc (.cells #[] 59)) hgrow2 ((Grew.refl w1).alloc (.cells #[] 59)).size (fun b hb => (World.ownsRow.lt hO b hb).1); have HF := own_form hown2 (fun e => by have e2 := hnil2.1 e; cases e2.1); obtain ⟨g2, cap2, rfl, hg2, hlt2, hcap2⟩ := HF; have D2 := G1.trans G12; have e0 := (D2.cell (p := ⟨g, 0, none⟩) lt).trans c0; have z0 := (D2.frozen (p := ⟨g, 0, none⟩) lt).trans f0; have ltg2 := Nat.lt_of_lt_of_le lt D2.size)
    have hgw : g ≠ w.heap.size := by omega
    have hR : w.heap.size < w1.heap.size := by rw [HS1.out]; omega
    have hgg : g ≠ g2 := by omega
    have n0 : ∀ j, (⟨g, 0, none⟩ : Addr) ≠ ⟨w.heap.size, j, none⟩ := fun j e => hgw (by injection e)
    have n2 : ∀ j, (⟨g, 0, none⟩ : Addr) ≠ ⟨g2, j, none⟩ := fun j e => hgg (by injection e)
    obtain ⟨r0, r1, r2, r3, r4, r5, r6⟩ := hk0
    have K2 : ∀ j x, w1.cell? ⟨w.heap.size, j, none⟩ = some x → (w2.setCell ⟨g, 0, none⟩ (.slice (some ⟨g2, 0, none⟩) d.rows.length cap2)).cell? ⟨w.heap.size, j, none⟩ = some x := fun j x hx => (World.cell?_setCell_other _ _ _ _ (n0 j)).trans ((G12.cell (p := ⟨w.heap.size, j, none⟩) hR).trans hx)
    replace r0 := K2 _ _ r0
    replace r1 := K2 _ _ r1
    replace r2 := K2 _ _ r2
    replace r3 := K2 _ _ r3
    replace r4 := K2 _ _ r4
    replace r5 := K2 _ _ r5
    replace r6 := K2 _ _ r6
    have e3 := World.cell?_setCell_same w2 ⟨g, 0, none⟩ (.slice (some ⟨g2, 0, none⟩) d.rows.length cap2) e0
    have hvi : i < vs.length := by omega
    rw [Nat.zero_add, List.nil_append] at hown2
    have L2 : ∀ j, j < 7 → (w2.setCell ⟨g, 0, none⟩ (.slice (some ⟨g2, 0, none⟩) d.rows.length cap2)).cell? ⟨g2, i * 7 + j, none⟩ = (rowCells d.rows[i] vs[i])[j]? := fun j hj => by
      rw [World.cell?_setCell_other _ _ _ _ (n2 _), World.ownsRow.cellAt hown2 _ (by omega)]
      exact flatC_get _ _ _ _ _ _ (List.getElem?_eq_getElem hi) (List.getElem?_eq_getElem hvi) hj
    have Z2 : ∀ j, (w2.setCell ⟨g, 0, none⟩ (.slice (some ⟨g2, 0, none⟩) d.rows.length cap2)).frozen? ⟨g2, j, none⟩ = false := fun j => by simpa [go_sem] using World.ownsRow.frozenAt hown2 j
    have p0 := L2 0 (by omega)
    have p1 := L2 1 (by omega)
    have p2 := L2 2 (by omega)
    have p3 := L2 3 (by omega)
    have p4 := L2 4 (by omega)
    have p5 := L2 5 (by omega)
    have p6 := L2 6 (by omega)
    simp only [rowCells, List.getElem?_cons_zero, List.getElem?_cons_succ, Nat.add_zero] at p0 p1 p2 p3 p4 p5 p6
    have y0 := Z2 (i * 7)
    have y1 := Z2 (i * 7 + 1)
    have y2 := Z2 (i * 7 + 2)
    have y3 := Z2 (i * 7 + 3)
    have y4 := Z2 (i * 7 + 4)
    have y5 := Z2 (i * 7 + 5)
    have y6 := Z2 (i * 7 + 6)
    have lt3 : g < (w2.setCell ⟨g, 0, none⟩ (.slice (some ⟨g2, 0, none⟩) d.rows.length cap2)).heap.size := by simpa [World.setCell] using ltg2
    have lt4 : g2 < (w2.setCell ⟨g, 0, none⟩ (.slice (some ⟨g2, 0, none⟩) d.rows.length cap2)).heap.size := by simpa [World.setCell] using hlt2
    have lt5 : w.heap.size < (w2.setCell ⟨g, 0, none⟩ (.slice (some ⟨g2, 0, none⟩) d.rows.length cap2)).heap.size := Nat.lt_of_lt_of_le (Nat.lt_of_lt_of_le hR G12.size) (by simp [World.setCell])
    generalize hw3 : w2.setCell ⟨g, 0, none⟩ (.slice (some ⟨g2, 0, none⟩) d.rows.length cap2) = w3 at r0 r1 r2 r3 r4 r5 r6 e3 p0 p1 p2 p3 p4 p5 p6 y0 y1 y2 y3 y4 y5 y6 lt3 lt4 lt5 ⊢
    replace hw3 := Lib.hid hw3
    clear L2 Z2 K2
    go_region
    obtain ⟨w8, hw8⟩ : ∃ w8, putRow w3 g2 (i * 7) (.slice A2 rb.length c2) (.int .u8 ((sentOf d.now ⟨⟨rb, 0, rcls, rid⟩, rst, rsent, rmany⟩).c.wait : Nat)) (.int .u8 ((sentOf d.now ⟨⟨rb, 0, rcls, rid⟩, rst, rsent, rmany⟩).c.cls : Nat)) (.int .u8 ((sentOf d.now ⟨⟨rb, 0, rcls, rid⟩, rst, rsent, rmany⟩).c.id : Nat)) (.int .i64 ((sentOf d.now ⟨⟨rb, 0, rcls, rid⟩, rst, rsent, rmany⟩).st : Nat)) (.int .i64 (sentOf d.now ⟨⟨rb, 0, rcls, rid⟩, rst, rsent, rmany⟩).sent) (.int .i64 ((sentOf d.now ⟨⟨rb, 0, rcls, rid⟩, rst, rsent, rmany⟩).many : Nat)) = w8 := ⟨_, rfl⟩
    have P8 := Lib.hid hw8
    unfold putRow at hw8
    rw [hw8]
    clear hw8
    have F8 : Far (fun k => k = g2) w3 w8 := P8.out ▸ putRow_far _ _ _ _ _ _ _ _ _ _
    have r8 := (F8.cell (p := ⟨w.heap.size, 0, none⟩) lt5 (show ¬ w.heap.size = g2 by omega)).trans r0
    have lt8 := Nat.lt_of_lt_of_le lt5 F8.size
    clear r0 r1 r2 r3 r4 r5 r6 e3 p0 p1 p2 p3 p4 p5 p6 y0 y1 y2 y3 y4 y5 y6 lt3 lt4
    go_wp2_with fail
    refine bodyPost_ret (by simp [results, Try.results31, go_sem]; try rfl) rfl ?_
    have hvf := flat_val hflat hvl rfl hi q0
    have hg2w : w.heap.size ≤ g2 := by omega
    have hob : ∀ b, (Value.slice (some ⟨g2, 0, none⟩) d.rows.length cap2).ownBlock = some b → b = g2 := fun b hb => by simpa [Value.ownBlock] using hb.symm
    have hc3 : CellsAt w3 7 (.slice (some ⟨g2, 0, none⟩) d.rows.length cap2) d.rows.length (flatC d.rows vs) := hw3.out ▸ (CellsAt.of_own hown2).far (Far.one w2 ⟨g, 0, none⟩ _) (fun b hb e => hgg ((hob b hb ▸ e : g2 = g)).symm)
    have hc8 := cells_put (r := sentOf d.now ⟨⟨rb, 0, rcls, rid⟩, rst, rsent, rmany⟩) hc3 hvl hi hvf
    have e8 := P8.out
    rw [e8] at hc8
    have hG8 := (Grew.refl w8).drew
    have hP := dlg_set HH.out hX hvl hok (fun fv hfv => (hok i _ fv (by rw [List.getElem?_eq_getElem hi, hr]) hfv).sent (now := d.now) HH.out.kn hm) D2 hg2w hlt2 (w5 := w8.drew) (hw3.out ▸ F8.trans (Far.of_grew hG8)) (hc8.far (F := fun _ => False) (Far.of_grew hG8) (fun _ _ h => h))
    exact ⟨_, _, _, (List.getElem?_eq_getElem hi).trans (congrArg some hr), rfl, qr.far hP.2 (fun b hb e => HH.out.out (e ▸ hXf b hb)), hXf, hP.1, fun b hb => hob b hb ▸ hg2w, hP.2⟩
  · have hwz : ¬ (rwait : Int) = 0 := by omega
    go_enter Try.func31, Try.ntmps31
    go_upto_region 7 with fail
    have hk0 : ∀ j x, (rowCells (sentOf d.now ⟨⟨rb, rwait, rcls, rid⟩, rst, rsent, rmany⟩) (.slice A2 rb.length c2))[j]? = some x → (w.alloc (.cells (rowCells (sentOf d.now ⟨⟨rb, rwait, rcls, rid⟩, rst, rsent, rmany⟩) (.slice A2 rb.length c2)).toArray 59)).cell? ⟨w.heap.size, j, none⟩ = some x := fun j x hx => by simp only [World.cell?_alloc_new]; simpa using hx
    have G1 := (Grew.refl w).alloc (.cells (rowCells (sentOf d.now ⟨⟨rb, rwait, rcls, rid⟩, rst, rsent, rmany⟩) (.slice A2 rb.length c2)).toArray 59)
    have hs1 : (w.alloc (.cells (rowCells (sentOf d.now ⟨⟨rb, rwait, rcls, rid⟩, rst, rsent, rmany⟩) (.slice A2 rb.length c2)).toArray 59)).heap.size = w.heap.size + 1 := by simp
    replace hk0 := (⟨hk0 0 _ rfl, hk0 1 _ rfl, hk0 2 _ rfl, hk0 3 _ rfl, hk0 4 _ rfl, hk0 5 _ rfl, hk0 6 _ rfl⟩ : _ ∧ _ ∧ _ ∧ _ ∧ _ ∧ _ ∧ _)
    have eW : w.alloc (.cells (rowCells (sentOf d.now ⟨⟨rb, rwait, rcls, rid⟩, rst, rsent, rmany⟩) (.slice A2 rb.length c2)).toArray 59) = w.alloc (Obj.cells #[Value.slice A2 rb.length c2, Value.int IntKind.u8 ↑rwait, Value.int IntKind.u8 ↑rcls, Value.int IntKind.u8 ↑rid, Value.int IntKind.i64 1, Value.int IntKind.i64 d.now, Value.int IntKind.i64 (↑rmany + 1)] 59) := by simp [rowCells, sentOf, hw]
    rw [eW] at hk0 G1 hs1
    generalize w.alloc (Obj.cells #[Value.slice A2 rb.length c2, Value.int IntKind.u8 ↑rwait, Value.int IntKind.u8 ↑rcls, Value.int IntKind.u8 ↑rid, Value.int IntKind.i64 1, Value.int IntKind.i64 d.now, Value.int IntKind.i64 (↑rmany + 1)] 59) = w1 at hk0 G1 hs1 ⊢
    clear eW
    have HS1 := Lib.hid hs1
    clear hs1
    have hone : ∀ x ∈ flatC d.rows vs, x.oneCell' = true := flatC_one _ _ (vs_one hvl hok)
    have hO : (w1.alloc (.cells #[] 59)).ownsRow w1.heap.size 59 7 (.slice (some ⟨w1.heap.size, 0, none⟩) 0 0) 0 [] := ⟨rfl, .inr ⟨_, 0, #[], rfl, Nat.le_refl _, heap_alloc_new w1 _, Nat.le_refl _, Nat.zero_le _, rfl, rfl⟩⟩
    have D0 := G1.alloc (.cells #[] 59)
    have hflat1 : CellsAt (w1.alloc (.cells #[] 59)) 7 (.slice (some ⟨b, o, none⟩) d.rows.length c) d.rows.length (flatC d.rows vs) := hflat.far (F := fun _ => False) (Far.of_grew D0) (fun _ _ h => h)
    have c1 := (G1.cell (p := ⟨g, 0, none⟩) lt).trans c0
    have lt1 := Nat.lt_of_lt_of_le lt G1.size
    have cc := (D0.cell (p := ⟨g, 0, none⟩) lt).trans c0
    have lt2 := Nat.lt_of_lt_of_le lt D0.size
    go_wp2_with (refine wpList_joinC _ rfl _ _ 55 rfl w1.heap.size 59 _ 7 56 rfl infoRow14 rfl (by decide) (.slice (some ⟨w1.heap.size, 0, none⟩) 0 0) 0 [] rfl hO (.slice (some ⟨b, o, none⟩) d.rows.length c) d.rows.length (flatC d.rows vs) rfl hflat1 hone (by unfold maxLen; omega) (by omega) (by simp) ?_; intro v2 w2 hown2 hgrow2 hnil2; have G12 : Grew w1 w2 := Below.grown ((Grew.refl w1).alloc (.cells #[] 59)) hgrow2 ((Grew.refl w1).alloc (.cells #[] 59)).size (fun b hb => (World.ownsRow.lt hO b hb).1); have HF := own_form hown2 (fun e => by have e2 := hnil2.1 e; cases e2.1); obtain ⟨g2, cap2, rfl, hg2, hlt2, hcap2⟩ := HF; have D2 := G1.trans G12; have e0 := (D2.cell (p := ⟨g, 0, none⟩) lt).trans c0; have z0 := (D2.frozen (p := ⟨g, 0, none⟩) lt).trans f0; have ltg2 := Nat.lt_of_lt_of_le lt D2.size)
    have hgw : g ≠ w.heap.size := by omega
    have hR : w.heap.size < w1.heap.size := by rw [HS1.out]; omega
    have hgg : g ≠ g2 := by omega
    have n0 : ∀ j, (⟨g, 0, none⟩ : Addr) ≠ ⟨w.heap.size, j, none⟩ := fun j e => hgw (by injection e)
    have n2 : ∀ j, (⟨g, 0, none⟩ : Addr) ≠ ⟨g2, j, none⟩ := fun j e => hgg (by injection e)
    obtain ⟨r0, r1, r2, r3, r4, r5, r6⟩ := hk0
    have K2 : ∀ j x, w1.cell? ⟨w.heap.size, j, none⟩ = some x → (w2.setCell ⟨g, 0, none⟩ (.slice (some ⟨g2, 0, none⟩) d.rows.length cap2)).cell? ⟨w.heap.size, j, none⟩ = some x := fun j x hx => (World.cell?_setCell_other _ _ _ _ (n0 j)).trans ((G12.cell (p := ⟨w.heap.size, j, none⟩) hR).trans hx)
    replace r0 := K2 _ _ r0
    replace r1 := K2 _ _ r1
    replace r2 := K2 _ _ r2
    replace r3 := K2 _ _ r3
    replace r4 := K2 _ _ r4
    replace r5 := K2 _ _ r5
    replace r6 := K2 _ _ r6
    have e3 := World.cell?_setCell_same w2 ⟨g, 0, none⟩ (.slice (some ⟨g2, 0, none⟩) d.rows.length cap2) e0
    have hvi : i < vs.length := by omega
    rw [Nat.zero_add, List.nil_append] at hown2
    have L2 : ∀ j, j < 7 → (w2.setCell ⟨g, 0, none⟩ (.slice (some ⟨g2, 0, none⟩) d.rows.length cap2)).cell? ⟨g2, i * 7 + j, none⟩ = (rowCells d.rows[i] vs[i])[j]? := fun j hj => by
      rw [World.cell?_setCell_other _ _ _ _ (n2 _), World.ownsRow.cellAt hown2 _ (by omega)]
      exact flatC_get _ _ _ _ _ _ (List.getElem?_eq_getElem hi) (List.getElem?_eq_getElem hvi) hj
    have Z2 : ∀ j, (w2.setCell ⟨g, 0, none⟩ (.slice (some ⟨g2, 0, none⟩) d.rows.length cap2)).frozen? ⟨g2, j, none⟩ = false := fun j => by simpa [go_sem] using World.ownsRow.frozenAt hown2 j
    have p0 := L2 0 (by omega)
    have p1 := L2 1 (by omega)
    have p2 := L2 2 (by omega)
    have p3 := L2 3 (by omega)
    have p4 := L2 4 (by omega)
    have p5 := L2 5 (by omega)
    have p6 := L2 6 (by omega)
    simp only [rowCells, List.getElem?_cons_zero, List.getElem?_cons_succ, Nat.add_zero] at p0 p1 p2 p3 p4 p5 p6
    have y0 := Z2 (i * 7)
    have y1 := Z2 (i * 7 + 1)
    have y2 := Z2 (i * 7 + 2)
    have y3 := Z2 (i * 7 + 3)
    have y4 := Z2 (i * 7 + 4)
    have y5 := Z2 (i * 7 + 5)
    have y6 := Z2 (i * 7 + 6)
    have lt3 : g < (w2.setCell ⟨g, 0, none⟩ (.slice (some ⟨g2, 0, none⟩) d.rows.length cap2)).heap.size := by simpa [World.setCell] using ltg2
    have lt4 : g2 < (w2.setCell ⟨g, 0, none⟩ (.slice (some ⟨g2, 0, none⟩) d.rows.length cap2)).heap.size := by simpa [World.setCell] using hlt2
    have lt5 : w.heap.size < (w2.setCell ⟨g, 0, none⟩ (.slice (some ⟨g2, 0, none⟩) d.rows.length cap2)).heap.size := Nat.lt_of_lt_of_le (Nat.lt_of_lt_of_le hR G12.size) (by simp [World.setCell])
    generalize hw3 : w2.setCell ⟨g, 0, none⟩ (.slice (some ⟨g2, 0, none⟩) d.rows.length cap2) = w3 at r0 r1 r2 r3 r4 r5 r6 e3 p0 p1 p2 p3 p4 p5 p6 y0 y1 y2 y3 y4 y5 y6 lt3 lt4 lt5 ⊢
    replace hw3 := Lib.hid hw3
    clear L2 Z2 K2
    go_region
    obtain ⟨w8, hw8⟩ : ∃ w8, putRow w3 g2 (i * 7) (.slice A2 rb.length c2) (.int .u8 ((sentOf d.now ⟨⟨rb, rwait, rcls, rid⟩, rst, rsent, rmany⟩).c.wait : Nat)) (.int .u8 ((sentOf d.now ⟨⟨rb, rwait, rcls, rid⟩, rst, rsent, rmany⟩).c.cls : Nat)) (.int .u8 ((sentOf d.now ⟨⟨rb, rwait, rcls, rid⟩, rst, rsent, rmany⟩).c.id : Nat)) (.int .i64 ((sentOf d.now ⟨⟨rb, rwait, rcls, rid⟩, rst, rsent, rmany⟩).st : Nat)) (.int .i64 (sentOf d.now ⟨⟨rb, rwait, rcls, rid⟩, rst, rsent, rmany⟩).sent) (.int .i64 ((sentOf d.now ⟨⟨rb, rwait, rcls, rid⟩, rst, rsent, rmany⟩).many : Nat)) = w8 := ⟨_, rfl⟩
    have P8 := Lib.hid hw8
    unfold putRow at hw8
    rw [hw8]
    clear hw8
    have F8 : Far (fun k => k = g2) w3 w8 := P8.out ▸ putRow_far _ _ _ _ _ _ _ _ _ _
    have r8 := (F8.cell (p := ⟨w.heap.size, 0, none⟩) lt5 (show ¬ w.heap.size = g2 by omega)).trans r0
    have lt8 := Nat.lt_of_lt_of_le lt5 F8.size
    clear r0 r1 r2 r3 r4 r5 r6 e3 p0 p1 p2 p3 p4 p5 p6 y0 y1 y2 y3 y4 y5 y6 lt3 lt4
    go_wp2_with fail
    refine bodyPost_ret (by simp [results, Try.results31, go_sem]; try rfl) rfl ?_
    have hvf := flat_val hflat hvl rfl hi q0
    have hg2w : w.heap.size ≤ g2 := by omega
    have hob : ∀ b, (Value.slice (some ⟨g2, 0, none⟩) d.rows.length cap2).ownBlock = some b → b = g2 := fun b hb => by simpa [Value.ownBlock] using hb.symm
    have hc3 : CellsAt w3 7 (.slice (some ⟨g2, 0, none⟩) d.rows.length cap2) d.rows.length (flatC d.rows vs) := hw3.out ▸ (CellsAt.of_own hown2).far (Far.one w2 ⟨g, 0, none⟩ _) (fun b hb e => hgg ((hob b hb ▸ e : g2 = g)).symm)
    have hc8 := cells_put (r := sentOf d.now ⟨⟨rb, rwait, rcls, rid⟩, rst, rsent, rmany⟩) hc3 hvl hi hvf
    have e8 := P8.out
    rw [e8] at hc8
    have hG8 := (Grew.refl w8).drew
    have hP := dlg_set HH.out hX hvl hok (fun fv hfv => (hok i _ fv (by rw [List.getElem?_eq_getElem hi, hr]) hfv).sent (now := d.now) HH.out.kn hm) D2 hg2w hlt2 (w5 := w8.drew) (hw3.out ▸ F8.trans (Far.of_grew hG8)) (hc8.far (F := fun _ => False) (Far.of_grew hG8) (fun _ _ h => h))
    exact ⟨_, _, _, (List.getElem?_eq_getElem hi).trans (congrArg some hr), rfl, qr.far hP.2 (fun b hb e => HH.out.out (e ▸ hXf b hb)), hXf, hP.1, fun b hb => hob b hb ▸ hg2w, hP.2⟩
end Go.Proofs.Ytcdmbnbanopioaa
