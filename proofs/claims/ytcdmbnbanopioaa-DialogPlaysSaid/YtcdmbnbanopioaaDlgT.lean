/-
  The document's dialogue: a tick.
-/
import Derived.Test.YtcdmbnbanopioaaDlgD
namespace Go.Proofs.Ytcdmbnbanopioaa
open Go.RowKit
set_option linter.unusedVariables false

/-- The greatest counter is written over; that one came. -/
theorem dlg_now {X : Nat → Prop} {w : World} {g : Nat} {L : Value} {d : Dlg} (h : DlgAt X w g L d) (t : Int) (ht : -9223372036854775808 ≤ t ∧ t ≤ 9223372036854775807) :
    DlgAt X (w.setCell ⟨g, 3, none⟩ (.int .i64 t)) g L ⟨d.rows, d.tmo, d.tries, t, d.came⟩ ∧ Far (fun k => k = g) w (w.setCell ⟨g, 3, none⟩ (.int .i64 t)) := by
  have F := (Far.refl (fun k => k = g) w).setCell (p := ⟨g, 3, none⟩) rfl (.int .i64 t)
  have ne : ∀ {i j : Nat}, i ≠ j → (⟨g, i, none⟩ : Addr) ≠ ⟨g, j, none⟩ := fun hj e => hj (by injection e)
  exact ⟨⟨by simpa [World.setCell] using h.lt, (World.cell?_setCell_other _ _ _ _ (ne (by omega))).trans h.c0, (World.cell?_setCell_other _ _ _ _ (ne (by omega))).trans h.c1, (World.cell?_setCell_other _ _ _ _ (ne (by omega))).trans h.c2,
    World.cell?_setCell_same _ _ _ h.c3, (World.cell?_setCell_other _ _ _ _ (ne (by omega))).trans h.c4, by simpa [go_sem] using h.f0, by simpa [go_sem] using h.f3, by simpa [go_sem] using h.f4,
    h.rows.far F (fun b hb => (h.own b hb).2.1) (fun b hb e => h.out (e ▸ hb)), fun b hb => ⟨Nat.lt_of_lt_of_le (h.own b hb).1 F.size, (h.own b hb).2⟩, h.out, h.kl, ht, h.kt, h.kr⟩, F⟩
theorem dlg_came {X : Nat → Prop} {w : World} {g : Nat} {L : Value} {d : Dlg} (h : DlgAt X w g L d) :
    DlgAt X (w.setCell ⟨g, 4, none⟩ (.bool true)) g L ⟨d.rows, d.tmo, d.tries, d.now, true⟩ ∧ Far (fun k => k = g) w (w.setCell ⟨g, 4, none⟩ (.bool true)) := by
  have F := (Far.refl (fun k => k = g) w).setCell (p := ⟨g, 4, none⟩) rfl (.bool true)
  have ne : ∀ {i j : Nat}, i ≠ j → (⟨g, i, none⟩ : Addr) ≠ ⟨g, j, none⟩ := fun hj e => hj (by injection e)
  exact ⟨⟨by simpa [World.setCell] using h.lt, (World.cell?_setCell_other _ _ _ _ (ne (by omega))).trans h.c0, (World.cell?_setCell_other _ _ _ _ (ne (by omega))).trans h.c1, (World.cell?_setCell_other _ _ _ _ (ne (by omega))).trans h.c2,
    (World.cell?_setCell_other _ _ _ _ (ne (by omega))).trans h.c3, World.cell?_setCell_same _ _ _ h.c4, by simpa [go_sem] using h.f0, by simpa [go_sem] using h.f3, by simpa [go_sem] using h.f4,
    h.rows.far F (fun b hb => (h.own b hb).2.1) (fun b hb e => h.out (e ▸ hb)), fun b hb => ⟨Nat.lt_of_lt_of_le (h.own b hb).1 F.size, (h.own b hb).2⟩, h.out, h.kl, h.kn, h.kt, h.kr⟩, F⟩
theorem sound_fail {tries : Nat} {now : Int} : ∀ {l : List DRow}, Sound tries now l → ∀ h : firstOf l < l.length, (l[firstOf l]).st = 1 → Sound tries now (l.set (firstOf l) (turnedOf 3 l[firstOf l])) := by
  intro l hs
  induction hs with
  | @new l hf =>
    intro h h1
    have := (hf _ (List.getElem_mem h)).1
    omega
  | @fly r l h1 hm ht hf =>
    intro hl _
    have e : firstOf (r :: l) = 0 := by rw [firstOf, if_pos (by omega)]
    simp only [e, List.getElem_cons_zero, List.set_cons_zero]
    exact .fin (by show 2 ≤ 3; omega) hm (.new hf)
  | @fin r l h2 hm _ ih =>
    intro hl h1
    have e : firstOf (r :: l) = firstOf l + 1 := by rw [firstOf, if_neg (by omega)]
    simp only [e, List.getElem_cons_succ, List.set_cons_succ] at h1 ⊢
    exact .fin h2 hm (ih (by rw [e] at hl; simpa using hl) h1)
/-- What a tick tells. -/
def TickTells (X : Nat → Prop) (g : Nat) (L : Value) (d : Dlg) (t : Int) (w : World) (e : Ending) (w' : World) : Prop :=
  ∃ L', DlgAt X w' g L' (d.tick t).1 ∧ Far (fun k => k = g) w w' ∧ (∀ b, L'.ownBlock = some b → L.ownBlock = some b ∨ w.heap.size ≤ b) ∧
    match (d.tick t).2 with
    | none => e = .returned (.tuple #[.slice none 0 0, .bool false])
    | some bs => ∃ fv, e = .returned (.tuple #[fv, .bool true]) ∧ Row .u8 w' fv bs ∧ (∀ b, fv.ownBlock = some b → X b)
theorem tells_none {X : Nat → Prop} {g : Nat} {d : Dlg} {t : Int} {w w' : World} {L L' : Value} {d' : Dlg} (e1 : d.tick t = (d', none)) (h : DlgAt X w' g L' d') (F : Far (fun k => k = g) w w') (hL : ∀ b, L'.ownBlock = some b → L.ownBlock = some b ∨ w.heap.size ≤ b) : TickTells X g L d t w (.returned (.tuple #[.slice none 0 0, .bool false])) w' := by
  unfold TickTells
  rw [e1]
  exact ⟨L', h, F, hL, rfl⟩
theorem tells_some {X : Nat → Prop} {g : Nat} {d : Dlg} {t : Int} {w w' : World} {L L' fv : Value} {d' : Dlg} {bs : List Nat} (e1 : d.tick t = (d', some bs)) (h : DlgAt X w' g L' d') (F : Far (fun k => k = g) w w') (hL : ∀ b, L'.ownBlock = some b → L.ownBlock = some b ∨ w.heap.size ≤ b) (hr : Row .u8 w' fv bs) (hf : ∀ b, fv.ownBlock = some b → X b) : TickTells X g L d t w (.returned (.tuple #[fv, .bool true])) w' := by
  unfold TickTells
  rw [e1]
  exact ⟨L', h, F, hL, fv, rfl, hr, hf⟩
/-- One command's state is written over in a copied list. -/
theorem cells_turn {w : World} {b c i s : Nat} {rs : List DRow} {vs : List Value} {r : DRow} (h : CellsAt w 7 (.slice (some ⟨b, 0, none⟩) rs.length c) rs.length (flatC rs vs)) (hl : vs.length = rs.length) (hr : rs[i]? = some r) :
    CellsAt (w.setCell ⟨b, i * 7 + 4, none⟩ (.int .i64 (s : Nat))) 7 (.slice (some ⟨b, 0, none⟩) rs.length c) (rs.set i (turnedOf s r)).length (flatC (rs.set i (turnedOf s r)) vs) := by
  have hi := (List.getElem?_eq_some_iff.1 hr).1
  have e2 := List.getElem?_eq_getElem (show i < vs.length by omega)
  generalize vs[i] = fv at e2
  obtain ⟨_, A, c', e, hc, hcell⟩ := h
  cases e
  have hl2 : vs.length = (rs.set i (turnedOf s r)).length := by rw [List.length_set]; exact hl
  refine ⟨flatC_length _ _ hl2, some ⟨b, 0, none⟩, c, by rw [List.length_set], by rw [List.length_set]; exact hc, fun hp => ?_⟩
  obtain ⟨b', o', e, hb, hcell⟩ := hcell (by omega)
  cases e
  refine ⟨b, 0, rfl, by simpa [World.setCell] using hb, fun k x hk => ?_⟩
  rw [flatC_set rs vs i (turnedOf s r) fv hl hi e2 k] at hk
  have ne : ∀ {i j : Nat}, i ≠ j → (⟨b, i, none⟩ : Addr) ≠ ⟨b, j, none⟩ := fun hj e => hj (by injection e)
  have hold : ∀ j, j < 7 → w.cell? ⟨b, i * 7 + j, none⟩ = (rowCells r fv)[j]? := fun j hj => by
    have h7 : (rowCells r fv).length = 7 := rfl
    have := hcell (i * 7 + j) _ ((flatC_get rs vs i j r fv hr e2 hj).trans (List.getElem?_eq_getElem (by omega)))
    rw [Nat.zero_add] at this
    rw [this, List.getElem?_eq_getElem (by omega)]
  rw [Nat.zero_add]
  by_cases hin : i * 7 ≤ k ∧ k < i * 7 + 7
  · rw [if_pos hin] at hk
    obtain ⟨j, hj⟩ : ∃ j, k - i * 7 = j := ⟨_, rfl⟩
    obtain rfl : k = i * 7 + j := by omega
    rw [hj] at hk
    by_cases e4 : j = 4
    · subst e4
      cases hk
      exact World.cell?_setCell_same _ _ _ (hold 4 (by omega))
    · rw [World.cell?_setCell_other _ _ _ _ (ne (by omega)), hold j (by omega), ← hk]
      match j, show j < 7 by omega, e4 with
      | 0, _, _ => rfl
      | 1, _, _ => rfl
      | 2, _, _ => rfl
      | 3, _, _ => rfl
      | 5, _, _ => rfl
      | 6, _, _ => rfl
  · rw [if_neg hin] at hk
    rw [World.cell?_setCell_other _ _ _ _ (ne (by omega))]
    have := hcell k x hk
    rwa [Nat.zero_add] at this
theorem dlg_turn {X : Nat → Prop} {w w2 : World} {g g2 cap i s : Nat} {L : Value} {d : Dlg} {vs : List Value} {r : DRow} (h : DlgAt X w g L d)
    (hX : ∀ b, X b → b < w.heap.size) (hvl : vs.length = d.rows.length) (hok : ∀ (i : Nat) (r : DRow) (fv : Value), d.rows[i]? = some r → vs[i]? = some fv → RowOk X w r fv)
    (hr : d.rows[i]? = some r) (hs : s < 4) (D : Grew w w2) (hg2 : w.heap.size ≤ g2) (hlt2 : g2 < w2.heap.size)
    (hc : CellsAt w2 7 (.slice (some ⟨g2, 0, none⟩) d.rows.length cap) d.rows.length (flatC d.rows vs)) :
    DlgAt X ((w2.setCell ⟨g, 0, none⟩ (.slice (some ⟨g2, 0, none⟩) d.rows.length cap)).setCell ⟨g2, i * 7 + 4, none⟩ (.int .i64 (s : Nat))) g (.slice (some ⟨g2, 0, none⟩) d.rows.length cap) ⟨d.rows.set i (turnedOf s r), d.tmo, d.tries, d.now, d.came⟩ ∧
      Far (fun k => k = g) w ((w2.setCell ⟨g, 0, none⟩ (.slice (some ⟨g2, 0, none⟩) d.rows.length cap)).setCell ⟨g2, i * 7 + 4, none⟩ (.int .i64 (s : Nat))) := by
  have hgg : ¬ g2 = g := by have := h.lt; omega
  refine dlg_set h hX hvl hok (fun fv hfv => (hok i r fv hr hfv).turned hs) D hg2 hlt2 ((Far.refl (fun k => k = g2) _).setCell (p := ⟨g2, i * 7 + 4, none⟩) rfl _) ?_
  exact cells_turn (hc.far (Far.one w2 ⟨g, 0, none⟩ _) (fun b hb e => hgg (by simp [Value.ownBlock] at hb; rw [hb]; exact e))) hvl hr
/-- What stands behind the copy of a list and the store of it. -/
theorem copy_facts {X : Nat → Prop} {w w2 : World} {g g2 cap i : Nat} {L : Value} {d : Dlg} {vs : List Value} {E : TypeId} {base : Nat} {r : DRow} (h : DlgAt X w g L d) (D : Grew w w2) (hg2 : w.heap.size ≤ g2) (hlt2 : g2 < w2.heap.size)
    (hown : w2.ownsRow base E 7 (.slice (some ⟨g2, 0, none⟩) d.rows.length cap) d.rows.length (flatC d.rows vs)) (hr : d.rows[i]? = some r) (hvl : vs.length = d.rows.length) :
    w2.cell? ⟨g, 0, none⟩ = some L ∧ w2.frozen? ⟨g, 0, none⟩ = false ∧ g < w2.heap.size ∧ (w2.setCell ⟨g, 0, none⟩ (.slice (some ⟨g2, 0, none⟩) d.rows.length cap)).cell? ⟨g, 0, none⟩ = some (.slice (some ⟨g2, 0, none⟩) d.rows.length cap) ∧
      (w2.setCell ⟨g, 0, none⟩ (.slice (some ⟨g2, 0, none⟩) d.rows.length cap)).cell? ⟨g2, i * 7 + 4, none⟩ = some (.int .i64 (r.st : Nat)) ∧ (w2.setCell ⟨g, 0, none⟩ (.slice (some ⟨g2, 0, none⟩) d.rows.length cap)).frozen? ⟨g2, i * 7 + 4, none⟩ = false := by
  have e0 := (D.cell (p := ⟨g, 0, none⟩) h.lt).trans h.c0
  have hi := (List.getElem?_eq_some_iff.1 hr).1
  have hne : g ≠ g2 := by have := h.lt; omega
  have n2 : ∀ j, (⟨g, 0, none⟩ : Addr) ≠ ⟨g2, j, none⟩ := fun j e => hne (by injection e)
  refine ⟨e0, (D.frozen (p := ⟨g, 0, none⟩) h.lt).trans h.f0, Nat.lt_of_lt_of_le h.lt D.size, World.cell?_setCell_same _ _ _ e0, ?_, ?_⟩
  · rw [World.cell?_setCell_other _ _ _ _ (n2 _), World.ownsRow.cellAt hown _ (by omega)]
    exact flatC_get _ _ i 4 r _ hr (List.getElem?_eq_getElem (show i < vs.length by omega)) (by omega)
  · simpa [go_sem] using World.ownsRow.frozenAt hown (i * 7 + 4)
theorem send_tick {X : Nat → Prop} {g i : Nat} {d : Dlg} {t n tmo : Int} {tries : Nat} {rs rs' : List DRow} {r : DRow} {w W2 w' : World} {L : Value} {e : Ending}
    (htk : d.tick t = (⟨(tickL n tmo tries rs).1, tmo, tries, n, true⟩, (tickL n tmo tries rs).2)) (hS : tickL n tmo tries rs = (rs'.set i (sentOf n r), some r.c.b)) (hr : rs'[i]? = some r)
    (h : SendTells X g ⟨rs', tmo, tries, n, true⟩ i W2 e w') (F : Far (fun k => k = g) w W2) : TickTells X g L d t w e w' := by
  obtain ⟨L', fv, r', hr', rfl, hrow, hfv, hD, hL, hF⟩ := h
  obtain rfl : r = r' := Option.some.inj (hr.symm.trans hr')
  rw [hS] at htk
  exact tells_some htk hD (F.trans hF) (fun b hb => .inr (Nat.le_trans F.size (hL b hb))) hrow hfv
-- [TICK
set_option maxRecDepth 100000 in
set_option maxHeartbeats 4000000 in
theorem ref14_Tick (X : Nat → Prop) (g : Nat) (L : Value) (d : Dlg) (w : World) (t : Int) (h : DlgAt X w g L d) (hS : Sound d.tries d.now d.rows) (hcame : d.came = false → Fresh d.rows) (ht : -9223372036854775808 ≤ t ∧ t ≤ 9223372036854775807) (hX : ∀ b, X b → b < w.heap.size) :
    Calls Try.prog 11 #[.pointer (some ⟨g, 0, none⟩), .int .i64 t] w (TickTells X g L d t w) := by
  have hH := Lib.hid h
  have lt := h.lt
  have c3 := h.c3
  have c4 := h.c4
  have f3 := h.f3
  have kn := h.kn
  clear h
  go_enter Try.func11, Try.ntmps11
  go_upto_region 1 with fail
  go_cut [19] (fun s wx => s = .bool (decide (d.came = false ∨ d.now < t)) ∧ wx = w)
  case first =>
    generalize d.now = n at *
    generalize d.came = cm at *
    cases cm
    · go_wp2_with fail
      go_meet
      case rel => exact ⟨by simp, rfl⟩
    · go_wp2_with fail
      go_meet
      case rel => exact ⟨by simp, rfl⟩
  case rest =>
  rename_i K HK
  obtain ⟨rfl, rfl⟩ := hcut
  refine HK _ _ ?_
  clear HK
  go_cut [] (fun wx => Hid (DlgAt X wx g L ⟨d.rows, d.tmo, d.tries, d.at t, d.came⟩) ∧ Hid (Far (fun k => k = g) wc wx))
  case first =>
    by_cases hc : d.came = false ∨ d.now < t
    · have D1 := dlg_now hH.out t ht
      have ea : Hid (d.at t = t) := Lib.hid (by unfold Dlg.at; rw [if_pos hc])
      have E1 := Lib.hid D1
      clear D1
      rw [decide_eq_true hc]
      clear hc
      go_wp2_with fail
      go_meet
      case rel => exact ⟨Lib.hid (by rw [ea.out]; exact E1.out.1), Lib.hid E1.out.2⟩
    · have ea : Hid (d.at t = d.now) := Lib.hid (by unfold Dlg.at; rw [if_neg hc])
      rw [decide_eq_false hc]
      clear hc
      go_wp2_with fail
      go_meet
      case rel => exact ⟨Lib.hid (by rw [ea.out]; exact hH.out), Lib.hid (Far.refl _ _)⟩
  case rest =>
    obtain ⟨H1, F1⟩ := hcut
    obtain ⟨wX, hwX⟩ : ∃ x, x = wc := ⟨_, rfl⟩
    subst hwX
    have lt1 := H1.out.lt
    have k4 := H1.out.c4
    have z4 := H1.out.f4
    have D2 := Lib.hid (dlg_came H1.out)
    have hSn : Sound d.tries (d.at t) d.rows := by
      cases q : d.came with
      | false => exact .new (hcame q)
      | true =>
        refine hS.later ?_
        unfold Dlg.at
        split
        · rename_i hc; rw [q] at hc; simp at hc; omega
        · exact Int.le_refl _
    have hkr := H1.out.kr
    have hkl := H1.out.kl
    have htk : d.tick t = (⟨(tickL (d.at t) d.tmo d.tries d.rows).1, d.tmo, d.tries, d.at t, true⟩, (tickL (d.at t) d.tmo d.tries d.rows).2) := rfl
    have hXw : ∀ b, X b → b < (wX.setCell ⟨g, 4, none⟩ (.bool true)).heap.size := fun b hb => Nat.lt_of_lt_of_le (hX b hb) (F1.out.trans D2.out.2).size
    simp only at hkr hkl
    clear hS hcame c3 c4 f3 kn hX
    go_upto_region 4 with fail
    have W2 : ∃ W2, wX.setCell ⟨g, 4, none⟩ (.bool true) = W2 := ⟨_, rfl⟩
    obtain ⟨W2, hW2⟩ := W2
    rw [hW2] at D2 hXw ⊢
    clear hW2
    obtain ⟨H2, F2'⟩ := D2.out
    have F2 := Lib.hid (F1.out.trans F2')
    have H2 := Lib.hid H2
    clear D2 F2' H1 F1 k4 z4 lt1 hH lt
    generalize d.at t = n at *
    generalize d.tmo = tmo at *
    generalize d.tries = tries at *
    generalize d.rows = rs at *
    have HFI := Lib.hid (ref14_first X g L _ W2 H2.out)
    simp only at HFI
    go_upto_region 5 with (go_at_call 29; refine HFI.out.mono ?_; rintro e w3 ⟨rfl, rfl⟩)
    have lt2 := H2.out.lt
    have c0 := H2.out.c0
    have c1 := H2.out.c1
    have c2 := H2.out.c2
    simp only at c1 c2
    by_cases hf : firstOf rs < rs.length
    · have e1 : firstInt rs = (firstOf rs : Nat) := by rw [firstInt, if_pos hf]
      rw [e1]
      obtain ⟨b, o, c, fv, rfl, hc, hd, _⟩ := H2.out.rows.at_ _ hf
      have hx := hd.c4
      have hxt := hd.c5
      have hxm := hd.c6
      have hbw := hd.cmd.lt
      have hs4 := hd.ks
      have hfst := hSn.first hf
      have HSN := Lib.hid hSn
      have HTN := Lib.hid (tick_new n tmo tries rs hf)
      have HTY := Lib.hid (tick_young n tmo tries rs hf)
      have HTA := Lib.hid (tick_again n tmo tries rs hf)
      have HTF := Lib.hid (tick_fail n tmo tries rs hf)
      have HSA := Lib.hid (send_at n rs hf)
      have HSD := fun hm => Lib.hid (fun w' (G : Grew W2 w') => ref14_send X g _ _ (firstOf rs) w' (H2.out.grew G) hf hm (fun b hb => Nat.lt_of_lt_of_le (hXw b hb) G.size))
      have hkt := hd.kt
      have HYO := fun (hs : -9223372036854775808 ≤ (rs[firstOf rs]'hf).sent ∧ (rs[firstOf rs]'hf).sent ≤ n) => Lib.hid (ref14_young X g _ _ W2 H2.out (rs[firstOf rs]'hf).sent hs)
      simp only at HYO hkt
      simp only at HSD
      simp only at hx hxt hxm c0 hc hd hs4
      have hri : Hid (rs[firstOf rs]? = some rs[firstOf rs]) := Lib.hid (List.getElem?_eq_getElem hf)
      have hrlen : Hid (firstOf rs < rs.length) := Lib.hid hf
      have HFT := fun h1 => Lib.hid (sound_fail hSn hf h1)
      obtain ⟨i, hi⟩ : ∃ i, firstOf rs = i := ⟨_, rfl⟩
      simp only [hi] at *
      generalize hrr : rs[i] = r at *
      clear hi hrr hSn HFI e1
      rcases hfst with ⟨h1, h2⟩ | ⟨h1, h2, h3⟩
      · have hne : ¬ r.st = 1 := by omega
        have HT := Lib.hid ((HTN.out hne).trans HSA.out)
        have HSE := HSD (by omega)
        rw [h1] at hx
        clear HTN HTY HTA HTF HSD hxt hxm hd
        go_wp2_with (go_at_call 31; refine (HSE.out _ (Grew.refl _)).mono ?_; intro e w4 h4; have h5 := send_tick (L := .slice (some ⟨b, o, none⟩) rs.length c) htk HT.out hri.out h4 F2.out; obtain ⟨L', fv', r', hr', rfl, _⟩ := h4; have H5 := Lib.hid h5; clear h5 hr')
        go_ret2
        exact H5.out
      · rw [h1] at hx
        have HY := HYO ⟨hkt.1, h3⟩
        have hsd := HSD (by omega)
        have hft := HFT h1
        clear HYO HSD HTN HFT hs4 hd hkt
        by_cases hy : n - r.sent < tmo
        · have HT := Lib.hid (HTY.out h1 hy)
          rw [decide_eq_true hy] at HY
          clear HTY HTA HTF hy
          go_wp2_with (go_at_call 30; refine HY.out.mono ?_; rintro e w4 ⟨rfl, g4⟩)
          go_ret2
          rw [HT.out] at htk
          exact tells_none htk (H2.out.grew g4) (F2.out.trans (Far.of_grew g4)) (fun b hb => .inl hb)
        · rw [decide_eq_false hy] at HY
          have K2 := Lib.hid (fun w' (G : Grew W2 w') => (⟨Nat.lt_of_lt_of_le lt2 G.size, (G.cell (p := ⟨g, 0, none⟩) lt2).trans c0, (G.cell (p := ⟨g, 2, none⟩) lt2).trans c2, (G.cell (p := ⟨b, o + i * 7 + 6, none⟩) hbw).trans hxm⟩ : g < w'.heap.size ∧ _ ∧ _ ∧ _))
          by_cases hm : r.many < tries
          · have HT := Lib.hid (HTA.out h1 hy hm)
            have HT2 := Lib.hid (HT.out.trans HSA.out)
            clear HTY HTA HTF
            go_wp2_with (go_at_call 30; refine HY.out.mono ?_; rintro e w4 ⟨rfl, g4⟩; obtain ⟨lt4, d0, d2, dm⟩ := K2.out _ g4)
            go_quiet (fail)
            have G5 := g4.drewN nq
            generalize w4.drewN nq = w5 at G5 ⊢
            go_wp2_with (go_at_call 31; refine (hsd.out _ G5).mono ?_; intro e w6 h6; have h7 := send_tick (L := .slice (some ⟨b, o, none⟩) rs.length c) htk HT2.out hri.out h6 (F2.out.trans (Far.of_grew G5)); obtain ⟨L', fv', r', hr', rfl, _⟩ := h6; have H7 := Lib.hid h7; clear h7 hr')
            go_ret2
            exact H7.out
          · have HT := Lib.hid (HTF.out h1 hy hm)
            have HF5 := fun w' (G : Grew W2 w') => H2.out.grew G
            obtain ⟨vs, hvl, hflat, hok⟩ := H2.out.rows.flat
            simp only at hvl hflat hok
            have hone : ∀ x ∈ flatC rs vs, x.oneCell' = true := flatC_one _ _ (vs_one hvl hok)
            have hz := H2.out.f0
            clear HTY HTA HTF HSA hsd
            go_wp2_with (go_at_call 30; refine HY.out.mono ?_; rintro e w4 ⟨rfl, g4⟩; obtain ⟨lt4, d0, d2, dm⟩ := K2.out _ g4)
            go_quiet (fail)
            have G5 := g4.drewN nq
            generalize w4.drewN nq = w5 at G5 ⊢
            obtain ⟨lt5, c5, _, _⟩ := K2.out _ G5
            have z5 := (G5.frozen (p := ⟨g, 0, none⟩) lt2).trans hz
            have H5 := Lib.hid (HF5 _ G5)
            clear HF5 d0 d2 dm lt4 hx hxt hxm c0 c1 c2 hz
            have hO : (w5.alloc (.cells #[] 59)).ownsRow w5.heap.size 59 7 (.slice (some ⟨w5.heap.size, 0, none⟩) 0 0) 0 [] := ⟨rfl, .inr ⟨_, 0, #[], rfl, Nat.le_refl _, heap_alloc_new w5 _, Nat.le_refl _, Nat.zero_le _, rfl, rfl⟩⟩
            have D0 := (Grew.refl w5).alloc (.cells #[] 59)
            have hflat1 : CellsAt (w5.alloc (.cells #[] 59)) 7 (.slice (some ⟨b, o, none⟩) rs.length c) rs.length (flatC rs vs) := hflat.far (F := fun _ => False) (Far.of_grew (G5.trans D0)) (fun _ _ h => h)
            have cc := (D0.cell (p := ⟨g, 0, none⟩) lt5).trans c5
            have lt6 := Nat.lt_of_lt_of_le lt5 D0.size
            have HVL := Lib.hid hvl
            have hrn : ¬ rs.length ≤ i := by have := hrlen.out; omega
            have hin : (i : Int) < rs.length := by have := hrlen.out; omega
            have hkl := H2.out.kl
            simp only at hkl
            clear hvl
            go_wp2_with (refine wpList_joinC _ rfl _ _ 55 rfl w5.heap.size 59 _ 7 56 rfl infoRow14 rfl (by decide) (.slice (some ⟨w5.heap.size, 0, none⟩) 0 0) 0 [] rfl hO (.slice (some ⟨b, o, none⟩) rs.length c) rs.length (flatC rs vs) rfl hflat1 hone (by unfold maxLen; omega) (by omega) (by simp) ?_; intro v2 w2 hown2 hgrow2 hnil2; have G12 : Grew w5 w2 := Below.grown ((Grew.refl w5).alloc (.cells #[] 59)) hgrow2 ((Grew.refl w5).alloc (.cells #[] 59)).size (fun b hb => (World.ownsRow.lt hO b hb).1); have HF := own_form hown2 (fun e => by have e2 := hnil2.1 e; cases e2.1); obtain ⟨g2, cap2, rfl, hg2, hlt2, hcap2⟩ := HF; rw [Nat.zero_add, List.nil_append] at hown2; have hcf := copy_facts H5.out G12 hg2 hlt2 hown2 hri.out HVL.out; obtain ⟨e0, z0, ltg2, e3, p4, y4⟩ := hcf; simp only at e3 p4 y4)
            have hok5 : ∀ (i : Nat) (r : DRow) (fv : Value), rs[i]? = some r → vs[i]? = some fv → RowOk X w5 r fv := fun i r fv h1 h2 => (hok i r fv h1 h2).far (F := fun _ => False) (Far.of_grew G5) (fun _ _ h => h)
            have hX5 : ∀ b, X b → b < w5.heap.size := fun b hb => Nat.lt_of_lt_of_le (hXw b hb) G5.size
            have hdt := dlg_turn (s := 3) H5.out hX5 HVL.out hok5 hri.out (by decide) G12 hg2 hlt2 (CellsAt.of_own hown2)
            simp only at hdt
            have e37 : (Value.int .i64 ((3 : Nat) : Int)) = .int .i64 3 := rfl
            rw [e37] at hdt
            clear hflat1 hflat hok hok5 hown2 hnil2 hgrow2 e0 z0 e3 p4 y4 hO cc D0 lt6 c5 z5
            generalize (w2.setCell ⟨g, 0, none⟩ (.slice (some ⟨g2, 0, none⟩) rs.length cap2)).setCell ⟨g2, i * 7 + 4, none⟩ (.int .i64 3) = w7 at hdt ⊢
            obtain ⟨D7, F7⟩ := hdt
            have F8 := Lib.hid ((F2.out.trans (Far.of_grew G5)).trans F7)
            have hX7 : ∀ b, X b → b < w7.heap.size := fun b hb => Nat.lt_of_lt_of_le (hX5 b hb) F7.size
            have D7' := Lib.hid D7
            have HG2 : Hid (∀ b, (Value.slice (some ⟨g2, 0, none⟩) rs.length cap2).ownBlock = some b → wc.heap.size ≤ b) := Lib.hid (fun b hb => by simp [Value.ownBlock] at hb; subst hb; exact Nat.le_trans (Nat.le_trans F2.out.size G5.size) hg2)
            have HF7 := Lib.hid (ref14_first X g _ _ w7 D7)
            have hsk := hft.out
            simp only at HF7
            clear F7 D7 G12 hlt2 hg2 ltg2 hcap2 hX5 H5 H2
            generalize rs.set i (turnedOf 3 r) = rs2 at *
            refine HF7.out.mono ?_
            rintro e w8 ⟨rfl, rfl⟩
            by_cases hf2 : firstOf rs2 < rs2.length
            · have e2 : firstInt rs2 = (firstOf rs2 : Nat) := by rw [firstInt, if_pos hf2]
              have hsa2 := Lib.hid (HT.out.trans (send_at n rs2 hf2))
              have hm2 : rs2[firstOf rs2].many < 100 := by rcases hsk.first hf2 with q | q <;> omega
              have HSE := Lib.hid (ref14_send X g _ _ (firstOf rs2) w7 D7'.out hf2 hm2 hX7)
              have hri2 : Hid (rs2[firstOf rs2]? = some rs2[firstOf rs2]) := Lib.hid (List.getElem?_eq_getElem hf2)
              try simp only at HSE
              rw [e2]
              generalize rs2[firstOf rs2] = r2 at *
              generalize firstOf rs2 = i2 at *
              go_wp2_with (go_at_call 31; refine HSE.out.mono ?_; intro e w9 h6; have h7 := send_tick (L := .slice (some ⟨b, o, none⟩) rs.length c) htk hsa2.out hri2.out h6 F8.out; obtain ⟨L', fv', r', hr', rfl, _⟩ := h6; have H7 := Lib.hid h7; clear h7 hr')
              go_ret2
              exact H7.out
            · have e2 : firstInt rs2 = -1 := by rw [firstInt, if_neg hf2]
              have hall : firstOf rs2 = rs2.length := by have := first_le rs2; omega
              have HT2 := Lib.hid (HT.out.trans (send_all n rs2 hall))
              rw [e2]
              go_wp2_with fail
              go_ret2
              rw [HT2.out] at htk
              exact tells_none htk D7'.out F8.out (fun b hb => .inr (HG2.out b hb))
    · have hall : firstOf rs = rs.length := by have := first_le rs; omega
      have e1 : firstInt rs = -1 := by rw [firstInt, if_neg hf]
      have htn := Lib.hid (tick_all n tmo tries rs hall)
      rw [e1]
      go_wp2_with fail
      go_ret2
      rw [htn.out] at htk
      exact tells_none htk H2.out F2.out (fun b hb => .inl hb)
-- TICK]
end Go.Proofs.Ytcdmbnbanopioaa
