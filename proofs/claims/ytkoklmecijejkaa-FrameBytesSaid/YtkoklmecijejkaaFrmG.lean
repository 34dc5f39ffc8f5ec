/-
  The document's frames: what stands at a ring's begin, its walk.
-/
import Derived.Test.YtkoklmecijejkaaFrmF
import Derived.Deep.RegionHeld3
import Derived.BigQuiet
namespace Go.Proofs.Ytkoklmecijejkaa
open Go.RowKit
set_option linter.unusedVariables false

theorem stand_eq {size : Nat} {L : List Nat} (h0 : 0 < L.length) {k : Nat} {ns : List Nat} {t r : Bool} (hb : bodyOf size L = (k, ns, t, r)) :
    standOf size L = if r = true then (2, 0, [], 0) else if t = true ∧ common (frameBytes k ns) L = (frameBytes k ns).length then (1, k, ns, (frameBytes k ns).length) else if t = true ∧ common (frameBytes k ns) L < L.length then (2, 0, [], 0) else if L.length = size then (2, 0, [], 0) else (0, 0, [], 0) := by
  unfold standOf
  rw [if_neg (by omega), hb]
theorem row_cells {k : IntKind} {w : World} {A : Option Addr} {n c : Nat} {ns : List Nat} (h : Row k w (.slice A n c) ns) (hn : 0 < ns.length) : ∃ b o, A = some ⟨b, o, none⟩ ∧ b < w.heap.size ∧ ∀ i, i < ns.length → w.cell? ⟨b, o + i, none⟩ = some (.int k (wd ns i)) := by
  obtain ⟨A', c', e, _, hr⟩ := h
  cases e
  exact hr hn
theorem frame_len {k : Nat} {ns : List Nat} : (frameBytes k ns).length ≤ ns.length + 10 := by
  unfold frameBytes frameRow ubxRow
  repeat' split
  all_goals simp
  all_goals omega
theorem beginTells_no {size : Nat} {L : List Nat} {w w' : World} (st k : Nat) (A : Option Addr) (m c : Nat) (h : (standOf size L).1 = st) (h1 : st ≠ 1) (hk : k < 256) (g : Grew w w') : BeginTells size L w (.returned (.tuple #[.int .i64 (st : Nat), .agg #[.int .u8 k, .slice A m c], .int .i64 0])) w' :=
  ⟨k, 0, A, m, c, by rw [h]; rfl, hk, by omega, fun h' => absurd (h.symm.trans h') h1, g⟩

theorem with_fact08 {p q : Prop} (h : p) (k : p → q) : q := k h
/-- A frame's variable, new. -/
structure NewF (w : World) (b : Nat) : Prop where
  lt : b < w.heap.size
  c0 : w.cell? ⟨b, 0, none⟩ = some (.int .u8 0)
  c1 : w.cell? ⟨b, 1, none⟩ = some (.slice none 0 0)
  f0 : w.frozen? ⟨b, 0, none⟩ = false
  f1 : w.frozen? ⟨b, 1, none⟩ = false
theorem NewF.new (w : World) (E : TypeId) : NewF (w.alloc (.cells #[.int .u8 0, .slice none 0 0] E)) w.heap.size := by
  refine ⟨by simp, ?_, ?_, ?_, ?_⟩ <;> simp [go_sem]
theorem NewF.grew {w w' : World} {b : Nat} (h : NewF w b) (g : Grew w w') : NewF w' b :=
  ⟨Nat.lt_of_lt_of_le h.lt g.size, (g.cell (p := ⟨b, 0, none⟩) h.lt).trans h.c0, (g.cell (p := ⟨b, 1, none⟩) h.lt).trans h.c1, (g.frozen (p := ⟨b, 0, none⟩) h.lt).trans h.f0, (g.frozen (p := ⟨b, 1, none⟩) h.lt).trans h.f1⟩
theorem newF (w : World) (E : TypeId) : ∃ W, w.alloc (.cells #[.int .u8 0, .slice none 0 0] E) = W ∧ Grew w W ∧ NewF W w.heap.size ∧ W.heap.size = w.heap.size + 1 := ⟨_, rfl, (Grew.refl w).alloc _, NewF.new w E, by simp⟩
/-- A frame's variable that holds one. -/
structure HasF (W w : World) (b k : Nat) (v : Value) (ns : List Nat) (r : Bool) : Prop where
  g : Grew W w
  lo : W.heap.size ≤ b
  hi : b < w.heap.size
  c0 : w.cell? ⟨b, 0, none⟩ = some (.int .u8 (k : Nat))
  c1 : w.cell? ⟨b, 1, none⟩ = some v
  own : r = false → Own W.heap.size 5 .u8 w v ns
theorem HasF.grew {W w w' : World} {b k : Nat} {v : Value} {ns : List Nat} {r : Bool} (h : HasF W w b k v ns r) (g : Grew w w') : HasF W w' b k v ns r :=
  ⟨h.g.trans g, h.lo, Nat.lt_of_lt_of_le h.hi g.size, (g.cell (p := ⟨b, 0, none⟩) h.hi).trans h.c0, (g.cell (p := ⟨b, 1, none⟩) h.hi).trans h.c1, fun hr => (h.own hr).grew g⟩

theorem hasF_late {W w1 : World} {k : Nat} {A : Option Addr} {n c : Nat} {ns : List Nat} {r : Bool} (E : TypeId) (hg : Grew W w1) (ho : r = false → Own W.drew.heap.size 5 .u8 w1 (.slice A n c) ns) : HasF W (w1.alloc (.cells #[.int .u8 (k : Nat), .slice A n c] E)) w1.heap.size k (.slice A n c) ns r :=
  ⟨hg.alloc _, hg.size, by simp, by simp [go_sem], by simp [go_sem], fun hr => (ho hr).grew ((Grew.refl _).alloc _)⟩
theorem hasF_early {W w1 : World} {k : Nat} {A : Option Addr} {n c : Nat} {ns : List Nat} {r : Bool} {E : TypeId} (hg : Grew (W.alloc (.cells #[.int .u8 0, .slice none 0 0] E)).drew w1) (ho : r = false → Own (W.alloc (.cells #[.int .u8 0, .slice none 0 0] E)).drew.heap.size 5 .u8 w1 (.slice A n c) ns) : HasF W ((w1.setCell ⟨W.heap.size, 0, none⟩ (.int .u8 (k : Nat))).setCell ⟨W.heap.size, 1, none⟩ (.slice A n c)) W.heap.size k (.slice A n c) ns r := by
  have B := ((NewF.new W E).grew (Grew.refl _).drew).grew hg
  have gW : Grew W w1 := Grew.trans (((Grew.refl W).alloc _).drew) hg
  have ne : ∀ {i j : Nat}, i ≠ j → (⟨W.heap.size, i, none⟩ : Addr) ≠ ⟨W.heap.size, j, none⟩ := fun hj e => hj (by injection e)
  have F : Far (fun b => b = W.heap.size) w1 ((w1.setCell ⟨W.heap.size, 0, none⟩ (.int .u8 (k : Nat))).setCell ⟨W.heap.size, 1, none⟩ (.slice A n c)) := Far.setCell (F := fun b => b = W.heap.size) (Far.setCell (F := fun b => b = W.heap.size) (Far.refl _ w1) (p := ⟨W.heap.size, 0, none⟩) rfl _) (p := ⟨W.heap.size, 1, none⟩) rfl _
  have hs : (W.alloc (.cells #[.int .u8 0, .slice none 0 0] E)).drew.heap.size = W.heap.size + 1 := by simp [World.drew]
  refine ⟨(gW.setCell (Nat.le_refl _) _).setCell (Nat.le_refl _) _, Nat.le_refl _, by simpa [World.setCell] using B.lt, ?_, ?_, fun hr => ?_⟩
  · rw [World.cell?_setCell_other _ _ _ _ (ne (by omega))]; exact World.cell?_setCell_same _ _ _ B.c0
  · exact World.cell?_setCell_same _ _ _ ((World.cell?_setCell_other _ _ _ _ (ne (by omega))).trans B.c1)
  · have h := ho hr
    rw [hs] at h
    refine own_base (h.far F (fun b hb e => ?_)) (Nat.le_add_right _ 1)
    have := World.ownsRow.lt h b hb
    omega

set_option maxRecDepth 1000000 in
set_option maxHeartbeats 4000000 in
theorem ref08_Begin (g size : Nat) (Lv : Value) (L : List Nat) (lost : Nat) (w : World) (h : RefAt w g size Lv L lost) (hB : Bytes L) (hl : L.length ≤ 4500) (hs : size ≤ 100000) :
    Calls Try.prog 25 #[.pointer (some ⟨g, 0, none⟩)] w (BeginTells size L w) := by
  obtain ⟨A, c, rfl, hc⟩ := h.row.form
  have c0 := h.c0
  have c1 := h.c1
  have lt := h.lt
  rcases Nat.eq_zero_or_pos L.length with h0 | h0
  · have hst : (standOf size L).1 = 0 := by unfold standOf; rw [if_pos h0]
    have HF := fun w' (g : Grew w w') => Lib.hid (beginTells_no (size := size) (L := L) 0 0 none 0 0 hst (by omega) (by omega) g)
    rw [h0] at c1
    clear h hB hst
    go_enter Try.func25, Try.ntmps25
    go_wp2_with fail
    refine bodyPost_ret (by simp [results, Try.results25, go_sem]; try rfl) rfl ?_
    exact (HF _ ((Grew.refl w).alloc _)).out
  · have z0 : ¬ (L.length : Int) = 0 := by omega
    have HR := fun w' (k : Grew w w') => Lib.hid (h.grew k)
    have KS : ∀ w', Grew w w' → Hid (w'.cell? ⟨g, 0, none⟩ = some (.int .i64 size) ∧ w'.cell? ⟨g, 1, none⟩ = some (.slice A L.length c)) := fun w' k => Lib.hid ⟨(h.grew k).c0, (h.grew k).c1⟩
    have HBY := fun w' (k : Grew w w') => Lib.hid (ref08_body _ L size w' ((h.grew k).row) hB (by omega) h0 hs)
    obtain ⟨kb, nb, tb, rb, hb⟩ : ∃ k ns t r, bodyOf size L = (k, ns, t, r) := ⟨_, _, _, _, rfl⟩
    have HST := Lib.hid (stand_eq h0 hb)
    have hkb : kb < 256 := by have := body_kind size L; rw [hb] at this; exact this
    have hnb : Bytes nb := by have := body_bytes (size := size) hB; rw [hb] at this; exact this
    have hln : nb.length ≤ 4502 := by have := body_len (size := size) (L := L); rw [hb] at this; simp only at this; omega
    have HNB := Lib.hid hnb
    have HB := Lib.hid hB
    unfold BodyTells at HBY
    rw [hb] at HBY
    clear h hB hb hnb
    go_enter Try.func25, Try.ntmps25
    go_wp2_with fail
    obtain ⟨W, hW, gW, NR, hWs⟩ := newF w 34
    rw [hW]
    have rr0 := NR.c0; have rr1 := NR.c1; have rf0 := NR.f0; have rf1 := NR.f1; have rlt := NR.lt
    clear hW
    have G : Grew W W.drew := (Grew.refl W).drew
    have NR2 := Lib.hid NR; have HWS := Lib.hid hWs
    clear NR hWs
    go_cut [5, 6, 7] (fun s t u wx => ∃ b A1 n1 c1, s = .pointer (some ⟨b, 0, none⟩) ∧ t = .bool tb ∧ u = .bool rb ∧ HasF W wx b kb (.slice A1 n1 c1) nb rb)
    case first =>
      go_region_held3 (fun w' => w'.cell? ⟨g, 0, none⟩ = some (.int .i64 size) ∧ w'.cell? ⟨g, 1, none⟩ = some (.slice A L.length c))
        (exact (KS _ (gW.trans (by repeat (first | (with_reducible exact G) | (with_reducible exact Grew.refl _) | (with_reducible refine Grew.alloc ?_ _) | (with_reducible refine Grew.setCell ?_ (Nat.le_refl _) _) | (with_reducible refine Grew.drew ?_))))).out)
        ((go_at_call 42; refine (HBY _ (gW.trans (by repeat (first | (with_reducible exact G) | (with_reducible exact Grew.refl _) | (with_reducible refine Grew.alloc ?_ _) | (with_reducible refine Grew.drew ?_))))).out.mono ?_; rintro e w1 ⟨A1, n1, c1, rfl, ho, hg1⟩; have HO := Lib.hid ho; clear ho; replace G := (Grew.trans (a := W) (by repeat (first | (with_reducible exact G) | (with_reducible exact Grew.refl _) | (with_reducible refine Grew.alloc ?_ _) | (with_reducible refine Grew.drew ?_))) hg1); have hs1 := G.size; (first | (refine with_fact08 (p := NewF w1 W.heap.size) ?_ ?_; exact ((NewF.new W 34).grew (Grew.refl _).drew).grew hg1; rintro ⟨m1, m2, m3, m4, m5⟩) | skip)))
      all_goals go_wp2_with fail
      all_goals go_meet
      all_goals refine ⟨_, A1, n1, c1, rfl, rfl, rfl, ?_⟩
      all_goals first | exact hasF_late _ G HO.out | exact hasF_early hg1 HO.out
    case rest =>
      obtain ⟨b, A1, n1, c1', rfl, rfl, rfl, HF⟩ := hcut
      have HG := gW.trans HF.g
      have s0 := HF.c0
      have s1 := HF.c1
      have r0 := (HF.g.cell (p := ⟨w.heap.size, 0, none⟩) rlt).trans rr0
      have r1 := (HF.g.cell (p := ⟨w.heap.size, 1, none⟩) rlt).trans rr1
      have q0 := (HF.g.frozen (p := ⟨w.heap.size, 0, none⟩) rlt).trans rf0
      have q1 := (HF.g.frozen (p := ⟨w.heap.size, 1, none⟩) rlt).trans rf1
      have d0 := (KS _ HG).out.1
      have d1 := (KS _ HG).out.2
      clear rr0 rr1 rf0 rf1 G
      cases rb
      case true =>
        have HS : Hid ((standOf size L).1 = 2) := by show _ = _; rw [HST.out, if_pos rfl]
        clear HST HBY HR
        go_wp2_with fail
        go_region
        go_wp2_with fail
        refine bodyPost_ret (by simp [results, Try.results25, go_sem, r0, r1]; try rfl) rfl ?_
        exact beginTells_no 2 kb A1 n1 _ HS.out (by omega) hkb (((HG.setCell (Nat.le_refl _) _).setCell (Nat.le_refl _) _).drew)
      case false =>
        have HO := Lib.hid (HF.own rfl)
        have hb := HF.hi
        have HF0 := Lib.hid HF.g
        clear HF
        cases tb
        case false =>
          have HS : Hid (standOf size L = if L.length = size then (2, 0, [], 0) else (0, 0, [], 0)) := by show _ = _; rw [HST.out, if_neg (by decide), if_neg (fun h => absurd h.1 (by decide)), if_neg (fun h => absurd h.1 (by decide))]
          clear HST HBY HR KS HO HB HNB
          by_cases hz : L.length = size
          · have HS2 : Hid ((standOf size L).1 = 2) := by show _ = _; rw [HS.out, if_pos hz]
            have z1 : (L.length : Int) = size := by omega
            clear HS hz
            go_wp2_with fail
            go_region
            go_wp2_with fail
            go_region
            go_wp2_with fail
            refine bodyPost_ret (by simp [results, Try.results25, go_sem, r0, r1]; try rfl) rfl ?_
            exact beginTells_no 2 kb A1 n1 _ HS2.out (by omega) hkb (((HG.setCell (Nat.le_refl _) _).setCell (Nat.le_refl _) _).drew.drew)
          · have HS2 : Hid ((standOf size L).1 = 0) := by show _ = _; rw [HS.out, if_neg hz]
            have z1 : ¬ (L.length : Int) = size := by omega
            clear HS hz
            go_wp2_with fail
            go_region
            go_wp2_with fail
            go_region
            go_wp2_with fail
            refine bodyPost_ret (by simp [results, Try.results25, go_sem, r0, r1]; try rfl) rfl ?_
            exact beginTells_no 0 kb A1 n1 _ HS2.out (by omega) hkb (((HG.setCell (Nat.le_refl _) _).setCell (Nat.le_refl _) _).drew.drew)
        case true =>
          have HBT := fun w' (k : Grew wc w') => Lib.hid (ref08_Bytes kb (.slice A1 n1 c1') nb w' (HO.out.row.grew k) HNB.out (by omega) hkb)
          unfold BytesTells at HBT
          have HFL := frame_len (k := kb) (ns := nb)
          obtain ⟨want, hwant⟩ : ∃ r, frameBytes kb nb = r := ⟨_, rfl⟩
          rw [hwant] at HFL HBT HST
          clear HNB HBY KS hwant
          have HS : Hid (standOf size L = if common want L = want.length then (1, kb, nb, want.length) else if common want L < L.length then (2, 0, [], 0) else if L.length = size then (2, 0, [], 0) else (0, 0, [], 0)) := by show _ = _; rw [HST.out, if_neg (by decide)]; simp only [true_and]
          clear HST
          go_wp2_with fail
          refine (HBT _ (Grew.refl _)).out.mono ?_
          clear HBT
          rintro e wx ⟨v, rfl, hO2, g2⟩
          obtain ⟨A2, k2, rfl, hk2⟩ := hO2.row.form
          obtain ⟨rb, ro, rfl, hrb, hcell⟩ := row_cells (HR w (Grew.refl w)).out.row h0
          have HO3 := Lib.hid hO2
          have HLC : ∀ w' i, Grew wx w' → i < L.length → Hid (w'.cell? ⟨rb, ro + i, none⟩ = some (.int .u8 (wd L i : Nat))) := fun w' i g hi => Lib.hid ((((HG.trans g2).trans g).cell (p := ⟨rb, ro + i, none⟩) hrb).trans (hcell i hi))
          have HWC : 0 < want.length → ∃ b o, A2 = some ⟨b, o, none⟩ ∧ ∀ w' i, Grew wx w' → i < want.length → Hid (w'.cell? ⟨b, o + i, none⟩ = some (.int .u8 (wd want i : Nat))) := fun h => by
            obtain ⟨b, o, e, hb, hc⟩ := row_cells hO2.row h
            exact ⟨b, o, e, fun w' i g hi => Lib.hid ((g.cell (p := ⟨b, o + i, none⟩) hb).trans (hc i hi))⟩
          have HW := Lib.hid HWC
          clear hO2 hcell HWC
          have HK : ∀ w', Grew wx w' → Hid (w'.cell? ⟨g, 0, none⟩ = some (.int .i64 size) ∧ w'.cell? ⟨g, 1, none⟩ = some (.slice (some ⟨rb, ro, none⟩) L.length c) ∧ w'.cell? ⟨b, 0, none⟩ = some (.int .u8 (kb : Nat)) ∧ w'.cell? ⟨b, 1, none⟩ = some (.slice A1 n1 c1') ∧ w'.cell? ⟨w.heap.size, 0, none⟩ = some (.int .u8 0) ∧ w'.cell? ⟨w.heap.size, 1, none⟩ = some (.slice none 0 0) ∧ w'.frozen? ⟨w.heap.size, 0, none⟩ = false ∧ w'.frozen? ⟨w.heap.size, 1, none⟩ = false) := fun w' k => by
            have K := g2.trans k
            have hz := HG.size
            have hl1 : w.heap.size < wc.heap.size := Nat.lt_of_lt_of_le rlt (by have := HF0.out.size; omega)
            have hlg : g < wc.heap.size := by omega
            exact Lib.hid ⟨(K.cell (p := ⟨g, 0, none⟩) hlg).trans d0, (K.cell (p := ⟨g, 1, none⟩) hlg).trans d1, (K.cell (p := ⟨b, 0, none⟩) hb).trans s0, (K.cell (p := ⟨b, 1, none⟩) hb).trans s1, (K.cell (p := ⟨w.heap.size, 0, none⟩) hl1).trans r0, (K.cell (p := ⟨w.heap.size, 1, none⟩) hl1).trans r1, (K.frozen (p := ⟨w.heap.size, 0, none⟩) hl1).trans q0, (K.frozen (p := ⟨w.heap.size, 1, none⟩) hl1).trans q1⟩
          have HN := fun w' (k : Grew wx w') x y => Lib.hid ((((HG.trans g2).trans k).setCell (p := ⟨w.heap.size, 0, none⟩) (Nat.le_refl _) x).setCell (p := ⟨w.heap.size, 1, none⟩) (Nat.le_refl _) y)
          have G2 := Lib.hid g2
          clear d0 d1 s0 s1 r0 r1 q0 q1 c0 c1 HR g2
          go_wp2_with fail
          go_loopw [10] (fun i wr => ∃ n : Nat, n ≤ want.length ∧ n ≤ L.length ∧ i = .int .i64 n ∧ Hid (∀ j, j < n → wd want j = wd L j) ∧ Hid (Grew wx wr)) (fun i _ => L.length - (intOf i).toNat)
          case atStart => exact ⟨0, by omega, by omega, rfl, fun s hs => by omega, Grew.refl _⟩
          case round =>
            obtain ⟨n, hnw, hnl, rfl, hM, hWR⟩ := hrel
            obtain ⟨d0, d1, s0, s1, r0, r1, q0, q1⟩ := (HK _ hWR.out).out
            by_cases hlw : n < want.length
            · obtain ⟨b2, o2, rfl, hw2⟩ := HW.out (by omega)
              have y1 := (hw2 _ n hWR.out hlw).out
              have w0 : decide ((n : Int) < (want.length : Int)) = true := decide_eq_true (by omega)
              have i0 : (0 : Int) ≤ n := by omega
              have i1 : (n : Int) < want.length := by omega
              by_cases hll : n < L.length
              · have y2 := (HLC _ n hWR.out hll).out
                have l0 : decide ((n : Int) < (L.length : Int)) = true := decide_eq_true (by omega)
                have i2 : (n : Int) < L.length := by omega
                by_cases he : wd want n = wd L n
                · have M1 : Hid (∀ j, j < n + 1 → wd want j = wd L j) := fun j hj => by
                    rcases Nat.lt_or_ge j n with h | h
                    · exact hM.out j h
                    · obtain rfl : j = n := by omega
                      exact he
                  rw [he] at y1
                  clear HN HO3 HS hM he
                  generalize wd L n = y at *
                  go_wp2_with fail
                  go_quiet (fail)
                  go_wp2_with fail
                  go_roundw
                  case rel => exact ⟨n + 1, by omega, by omega, by simp, M1, hWR.out.drewN _⟩
                  case measure => simp [intOf]; omega
                · have e0 : decide (((wd want n : Nat) : Int) = (wd L n : Nat)) = false := decide_eq_false (by omega)
                  have e1 : (((wd want n : Nat) : Int) == (wd L n : Nat)) = false := by simpa using (show ¬ ((wd want n : Nat) : Int) = (wd L n : Nat) by omega)
                  have hC := common_eq want L n hM.out hnw hnl (.inr (.inr he))
                  have HS2 : Hid ((standOf size L).1 = 2) := by show _ = _; rw [HS.out, hC, if_neg (by omega), if_pos hll]
                  have t1 : ¬ (n : Int) = want.length := by omega
                  clear HO3 HS hM he hC
                  generalize wd want n = x at *
                  generalize wd L n = y at *
                  go_wp2_with fail
                  go_quiet (fail)
                  go_wp2_with fail
                  go_region
                  go_wp2_with fail
                  refine bodyPost_ret (by simp [results, Try.results25, go_sem, r0, r1]; try rfl) rfl ?_
                  exact beginTells_no 2 kb A1 n1 _ HS2.out (by omega) hkb (((((HG.trans G2.out).trans hWR.out).drewN _).setCell (Nat.le_refl _) _).setCell (Nat.le_refl _) _)
              · have l0 : decide ((n : Int) < (L.length : Int)) = false := decide_eq_false (by omega)
                have hC := common_eq want L n hM.out hnw hnl (.inr (.inl (by omega)))
                have t1 : ¬ (n : Int) = want.length := by omega
                have t2 : ¬ (n : Int) < L.length := by omega
                have HS1 : Hid (standOf size L = if L.length = size then (2, 0, [], 0) else (0, 0, [], 0)) := by show _ = _; rw [HS.out, hC, if_neg (by omega), if_neg (by omega)]
                clear HO3 HS hM hC
                by_cases hz : L.length = size
                · have HS2 : Hid ((standOf size L).1 = 2) := by show _ = _; rw [HS1.out, if_pos hz]
                  have Z1 : Hid ((L.length : Int) = size) := by show _ = _; omega
                  clear HS1 hz
                  go_wp2_with fail
                  go_quiet (fail)
                  have z1 := Z1.out
                  go_wp2_with fail
                  go_region
                  go_wp2_with fail
                  go_region
                  go_wp2_with fail
                  refine bodyPost_ret (by simp [results, Try.results25, go_sem, r0, r1]; try rfl) rfl ?_
                  exact beginTells_no 2 kb A1 n1 _ HS2.out (by omega) hkb (((((HG.trans G2.out).trans hWR.out).drewN _).setCell (Nat.le_refl _) _).setCell (Nat.le_refl _) _)
                · have HS2 : Hid ((standOf size L).1 = 0) := by show _ = _; rw [HS1.out, if_neg hz]
                  have z1 : ¬ (L.length : Int) = size := by omega
                  clear HS1 hz
                  go_wp2_with fail
                  go_quiet (fail)
                  go_wp2_with fail
                  go_region
                  go_wp2_with fail
                  go_region
                  go_wp2_with fail
                  refine bodyPost_ret (by simp [results, Try.results25, go_sem, r0, r1]; try rfl) rfl ?_
                  exact beginTells_no 0 kb A1 n1 _ HS2.out (by omega) hkb (((((HG.trans G2.out).trans hWR.out).drewN _).setCell (Nat.le_refl _) _).setCell (Nat.le_refl _) _)
            · have w0 : decide ((n : Int) < (want.length : Int)) = false := decide_eq_false (by omega)
              obtain rfl : n = want.length := by omega
              have hC := common_eq want L _ hM.out hnw hnl (.inl rfl)
              have HS1 : Hid (standOf size L = (1, kb, nb, want.length)) := by show _ = _; rw [HS.out, hC, if_pos rfl]
              clear HS hM hC hlw
              go_wp2_with fail
              go_quiet (fail)
              go_wp2_with fail
              go_region
              go_wp2_with fail
              refine bodyPost_ret (by simp [results, Try.results25, go_sem, r0, r1]; try rfl) rfl ?_
              have FF : Far (fun k => k = w.heap.size) (wr.drewN (nq + 1)) (((wr.drewN (nq + 1)).setCell ⟨w.heap.size, 0, none⟩ (.int .u8 (kb : Nat))).setCell ⟨w.heap.size, 1, none⟩ (.slice A1 n1 c1')) := Far.setCell (F := fun k => k = w.heap.size) (Far.one _ ⟨w.heap.size, 0, none⟩ _) (p := ⟨w.heap.size, 1, none⟩) rfl _
              refine ⟨kb, want.length, A1, n1, c1', by rw [HS1.out]; rfl, hkb, by omega, fun _ => ?_, ((((HG.trans G2.out).trans hWR.out).drewN _).setCell (Nat.le_refl _) _).setCell (Nat.le_refl _) _⟩
              rw [HS1.out]
              refine ⟨rfl, rfl, own_base ((HO.out.grew ((G2.out.trans hWR.out).drewN _)).far FF (fun k hk e => ?_)) (by rw [HWS.out]; omega)⟩
              have := World.ownsRow.lt HO.out k hk
              have := HWS.out
              omega
end Go.Proofs.Ytkoklmecijejkaa
