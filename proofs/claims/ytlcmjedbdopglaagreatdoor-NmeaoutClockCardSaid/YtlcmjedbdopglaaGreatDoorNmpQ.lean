/-
  The program's sentences: the fields that may not be empty.
  The program's sentences: the kinds, as the map holds them.
  The program's sentences: a kind by a first field.
-/
import Derived.Test.YtlcmjedbdopglaaGreatDoorNmpH
import Derived.Deep.RegionHeld3
import Derived.LoopTactic
import Derived.MapKept
import Derived.Laws.EntriesVeiled
namespace Go.Proofs.YtlcmjedbdopglaaGreatDoor
open Go.RowKit
set_option linter.unusedVariables false

/- The program's sentences: the fields that may not be empty. -/
/-- Places of fields, in memory. -/
def PlacesAt (w : World) (E : Nat) (v : Value) (ps : List Nat) : Prop :=
  ∃ A c, v = .slice A ps.length c ∧ ps.length ≤ c ∧ (0 < ps.length → ∃ g, A = some ⟨g, 0, none⟩ ∧ g < w.heap.size ∧ g ≠ E ∧ ∀ (i : Nat) p, ps[i]? = some p → w.cell? ⟨g, i, none⟩ = some (.int .i64 (p : Nat)))
/-- The first k of those fields may not be empty. -/
def needTo (f : Nat → List Nat) (ps : List Nat) : Nat → Rs → Rs
  | 0, s => s
  | k + 1, s => sNeed f (ps.getD k 0) (needTo f ps k s)
section
variable {w w' : World} {S n c E X : Nat} {bs : List ByteArray} {s : Rs}
theorem need_bool (x : ByteArray) (s : Rs) : (s.1, s.2 || !!x.toList.isEmpty) = (s.1, s.2 || (nat x).isEmpty) := by
  rw [Bool.not_not, is_empty]
  congr 2
  rw [Bool.eq_iff_iff, decide_eq_true_eq, List.isEmpty_iff_length_eq_zero, nat_length]
theorem ask_kept {B S n c E j : Nat} {w0 w : World} {x : ByteArray} (hB : B < w0.heap.size) (hE : B ≠ E) (g0 : FarE E w0 w) (hS : S < w.heap.size) (hSE : S ≠ E) (d0 : w0.cell? ⟨B, 0, none⟩ = some (.slice (some ⟨S, 0, none⟩) n c)) (d1 : w0.cell? ⟨B, 1, none⟩ = some (.func (.func 21) #[] #[.pointer (some ⟨E, 0, none⟩)])) (c0 : w.cell? ⟨S, j, none⟩ = some (.string x)) :
    ∀ w', FarE E w w' → w'.cell? ⟨B, 0, none⟩ = some (.slice (some ⟨S, 0, none⟩) n c) ∧ w'.cell? ⟨B, 1, none⟩ = some (.func (.func 21) #[] #[.pointer (some ⟨E, 0, none⟩)]) ∧ w'.cell? ⟨S, j, none⟩ = some (.string x) :=
  fun w' g => ⟨((g0.trans g).cell (p := ⟨B, 0, none⟩) hB hE).trans d0, ((g0.trans g).cell (p := ⟨B, 1, none⟩) hB hE).trans d1, (g.cell (p := ⟨S, j, none⟩) hS hSE).trans c0⟩
set_option maxHeartbeats 4000000 in
set_option maxRecDepth 100000 in
theorem r_need (h : Rd w S n c bs E X s) (v : Value) (ps : List Nat) (hp : PlacesAt w E v ps) (hps : ∀ (i : Nat) p, ps[i]? = some p → p < n) (hl : ps.length ≤ 100) :
    Calls Tryz.prog 22 #[rv S n c E, v] w (Rdt w S n c bs E X (needTo (fb bs) ps ps.length s) (.tuple #[])) := by
  obtain ⟨A, c', rfl, hc', hr⟩ := hp
  obtain ⟨W, hW, gW, ltW, d0, d1⟩ := boxR w S n c E
  have hEl := h.hE
  have hXl := h.hX
  have HH := Lib.hid (h.grew gW)
  have GW := Lib.hid gW
  have HR := Lib.hid hr
  have HPS := Lib.hid hps
  clear h gW hr hps
  unfold rv
  go_enter Tryz.func22, Tryz.ntmps22
  go_upto_region 1 with fail
  go_wp2_with fail
  go_loopw [5, 8] (fun q i wr => ∃ k : Nat, k ≤ ps.length ∧ i = .int .i64 (k : Nat) ∧ Hid (Rd wr S n c bs E X (needTo (fb bs) ps k s)) ∧ Hid (FarE E W wr)) (fun _ i _ => ps.length - (intOf i).toNat)
  case atStart => exact ⟨0, by omega, rfl, HH, Lib.hid (Far.refl _ _)⟩
  case round =>
  obtain ⟨k, hk, rfl, HK, GK⟩ := hrel
  by_cases hlt : k < ps.length
  · obtain ⟨g, rfl, hg, hgE, hcell⟩ := HR.out (by omega)
    obtain ⟨p, hp⟩ : ∃ p, ps[k]? = some p := ⟨_, List.getElem?_eq_getElem hlt⟩
    have kp := ((GK.out.cell (p := ⟨g, k, none⟩) (Nat.lt_of_lt_of_le hg GW.out.size) hgE).trans (GW.out.cell (p := ⟨g, k, none⟩) hg)).trans (hcell k p hp)
    have hpn := HPS.out k p hp
    obtain ⟨x, hx⟩ := HK.out.ex p hpn
    have cx := HK.out.fields p x hx
    have KS := ask_kept ltW (show w.heap.size ≠ E by omega) GK.out HK.out.hS HK.out.SE d0 d1 cx
    obtain ⟨q0, q1, q2⟩ := KS _ (Far.refl _ _)
    have GD := HK.out.drew
    have HA := fun b => Lib.hid (r_ask (HK.out.grew (Grew.refl _).drew) b)
    unfold Rdt rv at HA
    have k0 : (k : Int) < ps.length := by omega
    have k1 : (0 : Int) ≤ k := by omega
    have p0 : (p : Int) < n := by omega
    have p1 : (0 : Int) ≤ p := by omega
    have hcap := HK.out.cap
    have p2 : (p : Int) < c := by omega
    have HST := Lib.hid (show needTo (fb bs) ps (k + 1) s = ((needTo (fb bs) ps k s).1, (needTo (fb bs) ps k s).2 || (nat x).isEmpty) by
      rw [needTo, List.getD_eq_getElem?_getD, hp]
      show sNeed (fb bs) p _ = _
      unfold sNeed
      rw [fb_at hx])
    have HNB := Lib.hid (need_bool x (needTo (fb bs) ps k s))
    obtain ⟨N, hN⟩ : ∃ N, ps.length = N := ⟨_, rfl⟩
    clear hcell hp hx cx d0 d1 hN hcap
    go_wp2_with fail
    go_region_held3 (fun w' => w'.cell? ⟨w.heap.size, 0, none⟩ = some (.slice (some ⟨S, 0, none⟩) n c) ∧ w'.cell? ⟨w.heap.size, 1, none⟩ = some (.func (.func 21) #[] #[.pointer (some ⟨E, 0, none⟩)]) ∧ w'.cell? ⟨S, p, none⟩ = some (.string x)) (exact KS _ GD)
      (first | (go_at_call 36; refine (HA _).out.mono ?_; rintro e w4 ⟨rfl, hh, gg⟩; replace GD := GD.trans gg))
    go_wp2_with fail
    go_roundw
    case rel => exact ⟨k + 1, by omega, by simp, Lib.hid (Rd.as (by rw [HST.out, ← HNB.out]) hh), Lib.hid (GK.out.trans GD)⟩
    case measure => simp [intOf]; omega
  obtain rfl : k = ps.length := by omega
  go_wp2_with fail
  go_returns
  exact ⟨rfl, HK.out, (Far.of_grew GW.out).trans GK.out⟩
end
/- The program's sentences: the kinds, as the map holds them. -/
/-- Something new in memory. -/
theorem newO (w : World) (o : Obj) : ∃ W, w.alloc o = W ∧ Grew w W ∧ W.heap.size = w.heap.size + 1 ∧ W.heap[w.heap.size]? = some o :=
  ⟨_, rfl, (Grew.refl w).alloc _, by simp, heap_alloc_new w _⟩
/-- A key that is not there is put into a map. -/
theorem nk_put (w : World) (b : Nat) (es : Array MapEntry) (c : Nat) (x : ByteArray) (v : Value) (hb : w.heap[b]? = some (.map es c)) (hf : Instr.findNow .string (.string x) es.toList 0 = some none) :
    ∃ W, Sem.run Tryz.prog (Instr.mapUpdate 87 (.map (some b)) (.string x) v) w = .ok () W ∧ Far (fun k => k = b) w W ∧ W.heap.size = w.heap.size ∧ W.heap[b]? = some (.map (es.push { key := .string x, val := v, born := c }) (c + 1)) := by
  have hc : (Instr.checkKey false 10000 9 (.string x)).run Tryz.prog w = .ok () w := MapKept.run_checkKey (k := .string x) Tryz.underlying9 (by simp [MapKept.IsKey]) false 9999
  have hs := MapKept.heap_set (o' := .map (es.push { key := .string x, val := v, born := c }) (c + 1)) hb
  refine ⟨{ w with heap := w.heap.setIfInBounds b (.map (es.push { key := .string x, val := v, born := c }) (c + 1)) }, ?_, ⟨rfl, rfl, rfl, by simp, fun k _ hk => hs.2 k hk⟩, by simp, hs.1⟩
  simp [Instr.mapUpdate, run_underlying Tryz.underlying87, MapKept.run_getObj_map hb, hc, MapKept.run_findKey Tryz.underlying9 hf, MapKept.run_setObj_map _ hb, Result.andThen]
/-- A kind, as the map holds it. -/
def nkv (num least most : Int) (need : Value) (g : Nat) : Value := .agg #[.int .u8 num, .int .i64 least, .int .i64 most, need, .func (.func g) #[] #[]]
def nkeys : List ByteArray := [⟨#[82, 77, 67]⟩, ⟨#[71, 71, 65]⟩, ⟨#[71, 76, 76]⟩, ⟨#[71, 83, 65]⟩, ⟨#[90, 68, 65]⟩, ⟨#[86, 84, 71]⟩, ⟨#[71, 83, 86]⟩]
def nvals (M : Nat) : List Value := [nkv 1 11 13 (.slice (some ⟨M + 1, 0, none⟩) 1 1) 57, nkv 2 14 14 (.slice none 0 0) 58, nkv 3 6 7 (.slice (some ⟨M + 2, 0, none⟩) 1 1) 59, nkv 4 17 18 (.slice (some ⟨M + 3, 0, none⟩) 2 2) 60,
  nkv 5 6 6 (.slice none 0 0) 61, nkv 6 8 9 (.slice none 0 0) 62, nkv 7 3 20 (.slice (some ⟨M + 4, 0, none⟩) 3 3) 63]
def nkinds (M : Nat) (k : Nat) : Array MapEntry := ((List.range k).map fun i => { key := .string (nkeys.getD i ⟨#[]⟩), val := (nvals M).getD i (.int .i64 0), born := i }).toArray
theorem nkinds_push (M k : Nat) : (nkinds M k).push { key := .string (nkeys.getD k ⟨#[]⟩), val := (nvals M).getD k (.int .i64 0), born := k } = nkinds M (k + 1) := by
  unfold nkinds
  rw [List.range_succ, List.map_append]
  simp
theorem nkinds_none (M k : Nat) (h : k < 7) : Instr.findNow .string (.string (nkeys.getD k ⟨#[]⟩)) (nkinds M k).toList 0 = some none := by
  rcases (show k = 0 ∨ k = 1 ∨ k = 2 ∨ k = 3 ∨ k = 4 ∨ k = 5 ∨ k = 6 by omega) with rfl | rfl | rfl | rfl | rfl | rfl | rfl <;> rfl
/-- One kind more. -/
theorem nk_more (w : World) (M k : Nat) (hb : w.heap[M]? = some (.map (nkinds M k) k)) (h : k < 7) :
    ∃ W, Sem.run Tryz.prog (Instr.mapUpdate 87 (.map (some M)) (.string (nkeys.getD k ⟨#[]⟩)) ((nvals M).getD k (.int .i64 0))) w = .ok () W ∧ Far (fun j => j = M) w W ∧ W.heap.size = w.heap.size ∧ W.heap[M]? = some (.map (nkinds M (k + 1)) (k + 1)) := by
  have := nk_put w M (nkinds M k) k (nkeys.getD k ⟨#[]⟩) ((nvals M).getD k (.int .i64 0)) hb (nkinds_none M k h)
  rwa [nkinds_push] at this
/-- What the map's making leaves. -/
structure NKinds (w : World) (M : Nat) : Prop where
  map : w.heap[M]? = some (.map (nkinds M 7) 7)
  size : M + 5 ≤ w.heap.size
  r : w.heap[M + 1]? = some (.cells #[.int .i64 2] 3)
  l : w.heap[M + 2]? = some (.cells #[.int .i64 6] 3)
  a : w.heap[M + 3]? = some (.cells #[.int .i64 1, .int .i64 2] 3)
  v : w.heap[M + 4]? = some (.cells #[.int .i64 1, .int .i64 2, .int .i64 3] 3)
set_option maxHeartbeats 2000000 in
set_option maxRecDepth 100000 in
theorem nk_kinds (w : World) : Calls Tryz.prog 35 #[] w fun e w' => e = .returned (.map (some w.heap.size)) ∧ NKinds w' w.heap.size ∧ Grew w w' := by
  have hmm := @run_makeMap Tryz.prog
  obtain ⟨V0, hV0, g0, s0, m0⟩ := newO w (.map #[] 0)
  obtain ⟨V1, hV1, g1, s1, c1⟩ := newO V0 (.cells #[.int .i64 2] 3)
  obtain ⟨V2, i2, f2, s2, m2⟩ := nk_more V1 w.heap.size 0 ((g1.below.block _ (by omega)).trans m0) (by omega)
  obtain ⟨V3, i3, f3, s3, m3⟩ := nk_more V2 w.heap.size 1 m2 (by omega)
  obtain ⟨V4, hV4, g4, s4, c4⟩ := newO V3 (.cells #[.int .i64 6] 3)
  obtain ⟨V5, i5, f5, s5, m5⟩ := nk_more V4 w.heap.size 2 ((g4.below.block _ (by omega)).trans m3) (by omega)
  obtain ⟨V6, hV6, g6, s6, c6⟩ := newO V5 (.cells #[.int .i64 1, .int .i64 2] 3)
  obtain ⟨V7, i7, f7, s7, m7⟩ := nk_more V6 w.heap.size 3 ((g6.below.block _ (by omega)).trans m5) (by omega)
  obtain ⟨V8, i8, f8, s8, m8⟩ := nk_more V7 w.heap.size 4 m7 (by omega)
  obtain ⟨V9, i9, f9, s9, m9⟩ := nk_more V8 w.heap.size 5 m8 (by omega)
  obtain ⟨V10, hV10, g10, s10, c10⟩ := newO V9 (.cells #[.int .i64 1, .int .i64 2, .int .i64 3] 3)
  obtain ⟨V11, i11, f11, s11, m11⟩ := nk_more V10 w.heap.size 6 ((g10.below.block _ (by omega)).trans m9) (by omega)
  obtain ⟨M, hM⟩ : ∃ M, w.heap.size = M := ⟨_, rfl⟩
  have K : NKinds V11 M := by
    subst hM
    have z : V11.heap.size = w.heap.size + 5 := by omega
    refine ⟨m11, by omega, ?_, ?_, ?_, ?_⟩
    · rw [f11.block _ (by omega) (by omega), g10.below.block _ (by omega), f9.block _ (by omega) (by omega), f8.block _ (by omega) (by omega), f7.block _ (by omega) (by omega), g6.below.block _ (by omega), f5.block _ (by omega) (by omega), g4.below.block _ (by omega), f3.block _ (by omega) (by omega), f2.block _ (by omega) (by omega), ← s0]; exact c1
    · rw [f11.block _ (by omega) (by omega), g10.below.block _ (by omega), f9.block _ (by omega) (by omega), f8.block _ (by omega) (by omega), f7.block _ (by omega) (by omega), g6.below.block _ (by omega), f5.block _ (by omega) (by omega), show w.heap.size + 2 = V3.heap.size by omega]; exact c4
    · rw [f11.block _ (by omega) (by omega), g10.below.block _ (by omega), f9.block _ (by omega) (by omega), f8.block _ (by omega) (by omega), f7.block _ (by omega) (by omega), show w.heap.size + 3 = V5.heap.size by omega]; exact c6
    · rw [f11.block _ (by omega) (by omega), show w.heap.size + 4 = V9.heap.size by omega]; exact c10
  have G : Grew w V11 := by
    have e : ∀ (j : Nat), (fun j => j = w.heap.size) j → w.heap.size ≤ j := fun j hj => Nat.le_of_eq hj.symm
    have a2 := f2.grew (g0.trans g1) e
    have a3 := f3.grew a2 e
    have a5 := f5.grew (a3.trans g4) e
    have a7 := f7.grew (a5.trans g6) e
    have a9 := f9.grew (f8.grew a7 e) e
    exact f11.grew (a9.trans g10) e
  have t0 : V0.heap.size = w.heap.size + 1 := s0
  have t3 : V3.heap.size = w.heap.size + 2 := by omega
  have t5 : V5.heap.size = w.heap.size + 3 := by omega
  have t9 : V9.heap.size = w.heap.size + 4 := by omega
  have HK := Lib.hid K
  have HG := Lib.hid G
  have HM := Lib.hid hM
  clear K G hM s0 s1 s2 s3 s4 s5 s6 s7 s8 s9 s10 s11 m0 m2 m3 m5 m7 m8 m9 m11 c1 c4 c6 c10 f2 f3 f5 f7 f8 f9 f11 g0 g1 g4 g6 g10
  simp only [nkeys, nvals, nkv, List.getD_cons_zero, List.getD_cons_succ] at i2 i3 i5 i7 i8 i9 i11
  go_enter Tryz.func35, Tryz.ntmps35
  go_wp2_with fail
  go_ret
  rw [HM.out]
  exact ⟨rfl, HK.out, HG.out⟩
/- The program's sentences: a kind by a first field. -/
/-- A kind's variable. -/
structure KAt (w : World) (b : Nat) (x0 x1 x2 x3 x4 : Value) : Prop where
  lt : b < w.heap.size
  c0 : w.cell? ⟨b, 0, none⟩ = some x0
  c1 : w.cell? ⟨b, 1, none⟩ = some x1
  c2 : w.cell? ⟨b, 2, none⟩ = some x2
  c3 : w.cell? ⟨b, 3, none⟩ = some x3
  c4 : w.cell? ⟨b, 4, none⟩ = some x4
  f0 : w.frozen? ⟨b, 0, none⟩ = false
  f1 : w.frozen? ⟨b, 1, none⟩ = false
  f2 : w.frozen? ⟨b, 2, none⟩ = false
  f3 : w.frozen? ⟨b, 3, none⟩ = false
  f4 : w.frozen? ⟨b, 4, none⟩ = false
theorem KAt.of {w : World} {b : Nat} {x0 x1 x2 x3 x4 : Value} {t : TypeId} (h : w.heap[b]? = some (.cells #[x0, x1, x2, x3, x4] t)) : KAt w b x0 x1 x2 x3 x4 :=
  ⟨(Array.getElem?_eq_some_iff.1 h).1, by simp [World.cell?, h], by simp [World.cell?, h], by simp [World.cell?, h], by simp [World.cell?, h], by simp [World.cell?, h], by simp [World.frozen?, h], by simp [World.frozen?, h], by simp [World.frozen?, h], by simp [World.frozen?, h], by simp [World.frozen?, h]⟩
theorem KAt.grew {w w' : World} {b : Nat} {x0 x1 x2 x3 x4 : Value} (h : KAt w b x0 x1 x2 x3 x4) (g : Grew w w') : KAt w' b x0 x1 x2 x3 x4 :=
  ⟨Nat.lt_of_lt_of_le h.lt g.size, (g.cell (p := ⟨b, 0, none⟩) h.lt).trans h.c0, (g.cell (p := ⟨b, 1, none⟩) h.lt).trans h.c1, (g.cell (p := ⟨b, 2, none⟩) h.lt).trans h.c2, (g.cell (p := ⟨b, 3, none⟩) h.lt).trans h.c3, (g.cell (p := ⟨b, 4, none⟩) h.lt).trans h.c4,
   (g.frozen (p := ⟨b, 0, none⟩) h.lt).trans h.f0, (g.frozen (p := ⟨b, 1, none⟩) h.lt).trans h.f1, (g.frozen (p := ⟨b, 2, none⟩) h.lt).trans h.f2, (g.frozen (p := ⟨b, 3, none⟩) h.lt).trans h.f3, (g.frozen (p := ⟨b, 4, none⟩) h.lt).trans h.f4⟩
theorem newKind (w : World) : ∃ W, w.alloc (.cells #[.int .u8 0, .int .i64 0, .int .i64 0, .slice none 0 0, .nilFunc] 60) = W ∧ Grew w W ∧ W.heap[w.heap.size]? = some (.cells #[.int .u8 0, .int .i64 0, .int .i64 0, .slice none 0 0, .nilFunc] 60) ∧ W.heap.size = w.heap.size + 1 :=
  ⟨_, rfl, (Grew.refl w).alloc _, heap_alloc_new w _, by simp⟩
def kset (w : World) (b : Nat) (x0 x1 x2 x3 x4 : Value) : World := ((((w.setCell ⟨b, 0, none⟩ x0).setCell ⟨b, 1, none⟩ x1).setCell ⟨b, 2, none⟩ x2).setCell ⟨b, 3, none⟩ x3).setCell ⟨b, 4, none⟩ x4
theorem KAt.set0 {w : World} {b : Nat} {x0 x1 x2 x3 x4 : Value} (h : KAt w b x0 x1 x2 x3 x4) (y0 y1 y2 y3 y4 : Value) : KAt (kset w b y0 y1 y2 y3 y4) b y0 y1 y2 y3 y4 := by
  have ne : ∀ {i j : Nat}, i ≠ j → (⟨b, i, none⟩ : Addr) ≠ ⟨b, j, none⟩ := fun hj e => hj (by injection e)
  unfold kset
  refine ⟨by simpa [World.setCell] using h.lt, ?_, ?_, ?_, ?_, ?_, by simpa using h.f0, by simpa using h.f1, by simpa using h.f2, by simpa using h.f3, by simpa using h.f4⟩
  · rw [World.cell?_setCell_other _ _ _ _ (ne (by omega)), World.cell?_setCell_other _ _ _ _ (ne (by omega)), World.cell?_setCell_other _ _ _ _ (ne (by omega)), World.cell?_setCell_other _ _ _ _ (ne (by omega))]
    exact World.cell?_setCell_same _ _ _ h.c0
  · rw [World.cell?_setCell_other _ _ _ _ (ne (by omega)), World.cell?_setCell_other _ _ _ _ (ne (by omega)), World.cell?_setCell_other _ _ _ _ (ne (by omega))]
    exact World.cell?_setCell_same _ _ _ ((World.cell?_setCell_other _ _ _ _ (ne (by omega))).trans h.c1)
  · rw [World.cell?_setCell_other _ _ _ _ (ne (by omega)), World.cell?_setCell_other _ _ _ _ (ne (by omega))]
    exact World.cell?_setCell_same _ _ _ ((World.cell?_setCell_other _ _ _ _ (ne (by omega))).trans ((World.cell?_setCell_other _ _ _ _ (ne (by omega))).trans h.c2))
  · rw [World.cell?_setCell_other _ _ _ _ (ne (by omega))]
    exact World.cell?_setCell_same _ _ _ ((World.cell?_setCell_other _ _ _ _ (ne (by omega))).trans ((World.cell?_setCell_other _ _ _ _ (ne (by omega))).trans ((World.cell?_setCell_other _ _ _ _ (ne (by omega))).trans h.c3)))
  · exact World.cell?_setCell_same _ _ _ ((World.cell?_setCell_other _ _ _ _ (ne (by omega))).trans ((World.cell?_setCell_other _ _ _ _ (ne (by omega))).trans ((World.cell?_setCell_other _ _ _ _ (ne (by omega))).trans ((World.cell?_setCell_other _ _ _ _ (ne (by omega))).trans h.c4))))
theorem far_kset (w : World) (b : Nat) (x0 x1 x2 x3 x4 : Value) : Far (fun k => k = b) w (kset w b x0 x1 x2 x3 x4) :=
  Far.setCell (F := fun k => k = b) (Far.setCell (F := fun k => k = b) (Far.setCell (F := fun k => k = b) (Far.setCell (F := fun k => k = b) (Far.one w ⟨b, 0, none⟩ x0) (p := ⟨b, 1, none⟩) rfl x1) (p := ⟨b, 2, none⟩) rfl x2) (p := ⟨b, 3, none⟩) rfl x3) (p := ⟨b, 4, none⟩) rfl x4
def zeroKind : Value := .agg #[.int .u8 0, .int .i64 0, .int .i64 0, .slice none 0 0, .nilFunc]
theorem NKinds.grew {w w' : World} {M : Nat} (h : NKinds w M) (g : Grew w w') : NKinds w' M := by
  have hs := h.size
  exact ⟨(g.below.block _ (by omega)).trans h.map, Nat.le_trans hs g.size, (g.below.block _ (by omega)).trans h.r, (g.below.block _ (by omega)).trans h.l, (g.below.block _ (by omega)).trans h.a, (g.below.block _ (by omega)).trans h.v⟩
theorem NKinds.far {w w' : World} {M b : Nat} (h : NKinds w M) (g : Far (fun k => k = b) w w') (hb : b < M ∨ M + 5 ≤ b) : NKinds w' M := by
  have hs := h.size
  exact ⟨(g.block _ (by omega) (by omega)).trans h.map, Nat.le_trans hs g.size, (g.block _ (by omega) (by omega)).trans h.r, (g.block _ (by omega) (by omega)).trans h.l, (g.block _ (by omega) (by omega)).trans h.a, (g.block _ (by omega) (by omega)).trans h.v⟩

theorem nk_zero (w : World) : Sem.run Tryz.prog (zeroValue 60) w = .ok zeroKind w := by kernel_rfl
theorem nkinds_empty (M : Nat) : (nkinds M 7).isEmpty = false := rfl
theorem nk_found (w : World) (M k : Nat) (hb : w.heap[M]? = some (.map (nkinds M 7) 7)) (hk : k < 7) :
    Sem.run Tryz.prog (Instr.lookup 87 (.map (some M)) (.string (nkeys.getD k ⟨#[]⟩)) true) w = .ok (.tuple #[(nvals M).getD k (.int .i64 0), .bool true]) w := by
  have hf : Instr.findNow .string (.string (nkeys.getD k ⟨#[]⟩)) (nkinds M 7).toList 0 = some (some (k, (nvals M).getD k (.int .i64 0))) := by
    rcases (show k = 0 ∨ k = 1 ∨ k = 2 ∨ k = 3 ∨ k = 4 ∨ k = 5 ∨ k = 6 by omega) with rfl | rfl | rfl | rfl | rfl | rfl | rfl <;> rfl
  have hc : (Instr.checkKey (nkinds M 7).isEmpty 10000 9 (.string (nkeys.getD k ⟨#[]⟩))).run Tryz.prog w = .ok () w := MapKept.run_checkKey (k := .string _) Tryz.underlying9 (by simp [MapKept.IsKey]) _ 9999
  generalize nkeys.getD k ⟨#[]⟩ = x at *
  simp [Instr.lookup, run_underlying Tryz.underlying87, MapKept.run_getObj_map hb, hc, MapKept.run_findKey Tryz.underlying9 hf, Result.andThen]
theorem nkinds_keys (M : Nat) : ∀ x ∈ (nkinds M 7).toList, ∃ k, k < 7 ∧ x.key = .string (nkeys.getD k ⟨#[]⟩) := by
  intro x hx
  unfold nkinds at hx
  simp only [List.mem_map, List.mem_range] at hx
  obtain ⟨k, hk, rfl⟩ := hx
  exact ⟨k, hk, rfl⟩
theorem nk_lost (w : World) (M : Nat) (x : ByteArray) (hb : w.heap[M]? = some (.map (nkinds M 7) 7)) (hx : ∀ k, k < 7 → x ≠ nkeys.getD k ⟨#[]⟩) :
    Sem.run Tryz.prog (Instr.lookup 87 (.map (some M)) (.string x) true) w = .ok (.tuple #[zeroKind, .bool false]) w := by
  have hf : Instr.findNow .string (.string x) (nkinds M 7).toList 0 = some none := by
    rcases MapKept.findNow_spec (d := .string) (k := .string x) (by simp [MapKept.IsKey]) (nkinds M 7).toList 0 (fun y hy => by obtain ⟨k, _, e⟩ := nkinds_keys M y hy; rw [e]; simp [MapKept.IsKey]) with ⟨h, _⟩ | ⟨j, e, _, he, hk⟩
    · exact h
    · obtain ⟨k, h7, e2⟩ := nkinds_keys M e (List.mem_of_getElem? he)
      rw [e2] at hk
      simp only [Value.string.injEq] at hk
      exact absurd hk.symm (hx k h7)
  have hc : (Instr.checkKey (nkinds M 7).isEmpty 10000 9 (.string x)).run Tryz.prog w = .ok () w := MapKept.run_checkKey (k := .string x) Tryz.underlying9 (by simp [MapKept.IsKey]) _ 9999
  have kz := nk_zero w
  simp [Instr.lookup, run_underlying Tryz.underlying87, MapKept.run_getObj_map hb, hc, MapKept.run_findKey Tryz.underlying9 hf, Result.andThen, kz]

/-- Letters are a kind's key, or none. -/
theorem letters_key (x : ByteArray) : (lettersOf (nat x) = 0 ∧ ∀ k, k < 7 → x ≠ nkeys.getD k ⟨#[]⟩) ∨ ∃ k, k < 7 ∧ lettersOf (nat x) = k + 1 ∧ x = nkeys.getD k ⟨#[]⟩ := by
  by_cases h : ∃ k, k < 7 ∧ x = nkeys.getD k ⟨#[]⟩
  · obtain ⟨k, hk, rfl⟩ := h
    refine .inr ⟨k, hk, ?_, rfl⟩
    rcases (show k = 0 ∨ k = 1 ∨ k = 2 ∨ k = 3 ∨ k = 4 ∨ k = 5 ∨ k = 6 by omega) with rfl | rfl | rfl | rfl | rfl | rfl | rfl <;> rfl
  · refine .inl ⟨?_, fun k hk e => h ⟨k, hk, e⟩⟩
    have g : ∀ k, k < 7 → nat x ≠ nat (nkeys.getD k ⟨#[]⟩) := fun k hk e => h ⟨k, hk, nat_ext e⟩
    unfold lettersOf
    rw [if_neg (show ¬ nat x = [82, 77, 67] from g 0 (by omega)), if_neg (show ¬ nat x = [71, 71, 65] from g 1 (by omega)), if_neg (show ¬ nat x = [71, 76, 76] from g 2 (by omega)), if_neg (show ¬ nat x = [71, 83, 65] from g 3 (by omega)), if_neg (show ¬ nat x = [90, 68, 65] from g 4 (by omega)), if_neg (show ¬ nat x = [86, 84, 71] from g 5 (by omega)), if_neg (show ¬ nat x = [71, 83, 86] from g 6 (by omega))]
/-- What is told of a first field's kind. -/
def KindT (s : ByteArray) (w : World) (e : Ending) (w' : World) : Prop :=
  Grew w w' ∧ ((kindOfN (nat s) = 0 ∧ e = .returned (.tuple #[zeroKind, .bool false])) ∨ ∃ k M, k < 7 ∧ kindOfN (nat s) = k + 1 ∧ e = .returned (.tuple #[(nvals M).getD k (.int .i64 0), .bool true]) ∧ NKinds w' M ∧ w.heap.size ≤ M)
end Go.Proofs.YtlcmjedbdopglaaGreatDoor
