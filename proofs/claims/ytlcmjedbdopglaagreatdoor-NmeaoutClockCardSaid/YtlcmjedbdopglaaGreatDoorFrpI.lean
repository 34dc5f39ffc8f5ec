/-
  The program's frames: the kinds by their first byte; what stands at a begin, up to its body.
  The program's frames: what it finds at a begin is what the document says stands there.
-/
import Derived.Test.YtlcmjedbdopglaaGreatDoorFrpG
import Derived.Test.YtlcmjedbdopglaaGreatDoorFrmI
import Derived.MapKept
import Derived.Laws.EntriesVeiled
namespace Go.Proofs.YtlcmjedbdopglaaGreatDoor
open Go.RowKit
set_option linter.unusedVariables false

/- The program's frames: the kinds by their first byte; what stands at a begin, up to its body. -/
theorem heap_push_set (H : Array Obj) (o o' : Obj) : (H.push o).setIfInBounds H.size o' = H.push o' := by
  apply Array.ext_getElem?
  intro i
  rw [Array.getElem?_setIfInBounds, Array.getElem?_push, Array.getElem?_push]
  by_cases h : H.size = i
  · subst h; simp
  · rw [if_neg h, if_neg (fun e => h e.symm), if_neg (fun e => h e.symm)]
theorem run_ins (w : World) (es : Array MapEntry) (c : Nat) (x : Int) (v : Value) (hf : Instr.findNow (.int .u8) (.int .u8 x) es.toList 0 = some none) :
    Sem.run Tryz.prog (Instr.mapUpdate 135 (.map (some w.heap.size)) (.int .u8 x) v) (w.alloc (.map es c)) = .ok () (w.alloc (.map (es.push { key := .int .u8 x, val := v, born := c }) (c + 1))) := by
  have hb : (w.alloc (.map es c)).heap[w.heap.size]? = some (.map es c) := heap_alloc_new w _
  have hc : (Instr.checkKey false 10000 5 (.int .u8 x)).run Tryz.prog (w.alloc (.map es c)) = .ok () (w.alloc (.map es c)) := MapKept.run_checkKey (k := .int .u8 x) Tryz.underlying5 (by simp [MapKept.IsKey]) false 9999
  have e : (w.alloc (.map es c)).heap.setIfInBounds w.heap.size (.map (es.push { key := .int .u8 x, val := v, born := c }) (c + 1)) = (w.alloc (.map (es.push { key := .int .u8 x, val := v, born := c }) (c + 1))).heap := heap_push_set _ _ _
  simp [Instr.mapUpdate, run_underlying Tryz.underlying135, MapKept.run_getObj_map hb, hc, MapKept.run_findKey Tryz.underlying5 hf, MapKept.run_setObj_map _ hb, Result.andThen, e]
  rfl
/-- The kinds, as the map holds them. -/
def kindsOf : Array MapEntry := #[{ key := .int .u8 36, val := .agg #[.int .u8 1, .func (.func 103) #[] #[]], born := 0 }, { key := .int .u8 181, val := .agg #[.int .u8 2, .func (.func 104) #[] #[]], born := 1 }, { key := .int .u8 160, val := .agg #[.int .u8 3, .func (.func 105) #[] #[]], born := 2 }]
theorem prog_kinds (w : World) : Calls Tryz.prog 78 #[] w fun e w' => e = .returned (.map (some w.heap.size)) ∧ w' = w.alloc (.map kindsOf 3) := by
  have hmm := @run_makeMap Tryz.prog
  have i1 := run_ins w #[] 0 36 (.agg #[.int .u8 1, .func (.func 103) #[] #[]]) rfl
  have i2 := run_ins w #[{ key := .int .u8 36, val := .agg #[.int .u8 1, .func (.func 103) #[] #[]], born := 0 }] 1 181 (.agg #[.int .u8 2, .func (.func 104) #[] #[]]) rfl
  have i3 := run_ins w #[{ key := .int .u8 36, val := .agg #[.int .u8 1, .func (.func 103) #[] #[]], born := 0 }, { key := .int .u8 181, val := .agg #[.int .u8 2, .func (.func 104) #[] #[]], born := 1 }] 2 160 (.agg #[.int .u8 3, .func (.func 105) #[] #[]]) rfl
  go_enter Tryz.func78, Tryz.ntmps78
  go_wp2_with fail
  go_ret
  exact ⟨rfl, rfl⟩
theorem run_look (w : World) (b : Nat) (x : Int) (i : Nat) (v : Value) (hb : w.heap[b]? = some (.map kindsOf 3)) (hf : Instr.findNow (.int .u8) (.int .u8 x) kindsOf.toList 0 = some (some (i, v))) :
    Sem.run Tryz.prog (Instr.lookup 135 (.map (some b)) (.int .u8 x) true) w = .ok (.tuple #[v, .bool true]) w := by
  have hc : (Instr.checkKey kindsOf.isEmpty 10000 5 (.int .u8 x)).run Tryz.prog w = .ok () w := MapKept.run_checkKey (k := .int .u8 x) Tryz.underlying5 (by simp [MapKept.IsKey]) _ 9999
  simp [Instr.lookup, run_underlying Tryz.underlying135, MapKept.run_getObj_map hb, hc, MapKept.run_findKey Tryz.underlying5 hf, Result.andThen]
theorem kind_zero (w : World) : Sem.run Tryz.prog (zeroValue 133) w = .ok (.agg #[.int .u8 0, .nilFunc]) w := by kernel_rfl
theorem run_lookN (w : World) (b : Nat) (x : Int) (hb : w.heap[b]? = some (.map kindsOf 3)) (hf : Instr.findNow (.int .u8) (.int .u8 x) kindsOf.toList 0 = some none) :
    Sem.run Tryz.prog (Instr.lookup 135 (.map (some b)) (.int .u8 x) true) w = .ok (.tuple #[.agg #[.int .u8 0, .nilFunc], .bool false]) w := by
  have hc : (Instr.checkKey kindsOf.isEmpty 10000 5 (.int .u8 x)).run Tryz.prog w = .ok () w := MapKept.run_checkKey (k := .int .u8 x) Tryz.underlying5 (by simp [MapKept.IsKey]) _ 9999
  have kz := kind_zero w
  simp [Instr.lookup, run_underlying Tryz.underlying135, MapKept.run_getObj_map hb, hc, MapKept.run_findKey Tryz.underlying5 hf, Result.andThen, kz]

section
variable {R0 : World → Prop} {v : Value} {F : Nat → Prop} {size : Nat} {L : List Nat} {w w' : World} {a b k : Nat}
/-- The frame that stands here, as far as its body goes: 2 if it is there, 1 if it is wrong, 0 if it is short. -/
theorem hP_lt {L : List Nat} {x : Nat} (h : wd L 0 = x) (hB : Bytes L) : x < 256 := by have := hB 0; omega
def UpT (R0 : World → Prop) (v : Value) (F : Nat → Prop) (a b : Nat) (kk st : Nat) (ns : List Nat) (n : Nat) (w : World) (e : Ending) (w' : World) : Prop :=
  ∃ k A m c j, e = .returned (.tuple #[.agg #[.int .u8 (k : Nat), .slice A m c], .int .i64 (st : Nat)]) ∧ k < 256 ∧ j ≤ 5000 ∧ (st = 2 → j = n ∧ k = kk ∧ Own w.heap.size 5 .u8 w' (.slice A m c) ns) ∧ AtK R0 v F w' a b j ∧ Far (fun x => x = b) w w'
set_option maxRecDepth 100000 in
set_option maxHeartbeats 4000000 in
theorem up_body (P : Looked R0 v F size L) (w : World) (a b : Nat) (h : AtK R0 v F w a b 0) (x kk g st : Nat) (ns : List Nat) (n : Nat) (hx : wd L 0 = x) (h1 : 0 < L.length)
    (hl : ∀ w b, w.heap[b]? = some (.map kindsOf 3) → Sem.run Tryz.prog (Instr.lookup 135 (.map (some b)) (.int .u8 (x : Nat)) true) w = .ok (.tuple #[.agg #[.int .u8 (kk : Nat), .func (.func g) #[] #[]], .bool true]) w)
    (eg : ∀ args w, (callFunc g args).run Tryz.prog w = .ok (.enter g args) w) (hk : kk < 256)
    (hc : ∀ w', AtK R0 v F w' a b 1 → Calls Tryz.prog g #[bv a b size] w' (BodyT R0 v F L a b st ns n w')) :
    Calls Tryz.prog 54 #[bv a b size] w (UpT R0 v F a b kk st ns n w) := by
  have hlb := h.lb
  have hla := h.la
  obtain ⟨W, hW, gW, c0, hWlt, c1, hWs⟩ := newB w (.func (.func 51) #[] #[.pointer (some ⟨a, 0, none⟩), .pointer (some ⟨b, 0, none⟩)]) (.int .i64 (size : Nat)) 109
  obtain ⟨V, hV, gV, NV, hVs⟩ := newF W 51
  have HA := Lib.hid (h.grew P (gW.trans gV))
  have HN := Lib.hid (look_next P V a b 0 (h.grew P (gW.trans gV)) (by omega))
  unfold NextT at HN
  rw [hx, decide_eq_true h1] at HN
  have HP := Lib.hid P
  have HC := fun w' q => Lib.hid (hc w' q)
  have HLT := Lib.hid (fun y (hy : F y) => P.lt w y h.r hy)
  have HL := fun w b q => Lib.hid (hl w b q)
  have e0 := (gV.cell (p := ⟨w.heap.size, 0, none⟩) hWlt).trans c0
  have e1 := (gV.cell (p := ⟨w.heap.size, 1, none⟩) hWlt).trans c1
  have hX := hP_lt hx P.bytes
  clear hc hl P h hx h1 c0 c1
  unfold bv at HC ⊢
  go_enter Tryz.func54, Tryz.ntmps54
  go_upto_region 1 with fail
  rw [hWs] at NV
  have hVs2 : V.heap.size = w.heap.size + 2 := by omega
  have GV := Lib.hid (gW.trans gV)
  clear hW hV gW gV hWlt hWs hVs
  go_wp2_with fail
  refine HN.out.mono ?_
  rintro e w1 ⟨rfl, hA1, hF1⟩
  have f0 := (hF1.cell (p := ⟨w.heap.size, 0, none⟩) (by simp only; omega) (by simp only; omega)).trans e0
  have f1 := (hF1.cell (p := ⟨w.heap.size, 1, none⟩) (by simp only; omega) (by simp only; omega)).trans e1
  have N1 := NV.far hF1 (by omega)
  have hw1 : w.heap.size + 2 ≤ w1.heap.size := by have := hF1.size; omega
  have hF2 := Lib.hid ((Far.of_grew GV.out).trans hF1)
  have hA2 := Lib.hid hA1
  clear hF1 hA1 HN NV e0 e1 hVs2 GV HA
  go_upto_region 5 with (go_at_call 78; refine (prog_kinds _).mono ?_; rintro e w2 ⟨rfl, rfl⟩; have hlk := (HL (w1.alloc (.map kindsOf 3)) w1.heap.size (heap_alloc_new _ _)).out)
  have GM := (Grew.refl w1).alloc (.map kindsOf 3)
  obtain ⟨U, hU, gU, u0, hUl, u1, hUs⟩ := newB (w1.alloc (.map kindsOf 3)) (.int .u8 (kk : Nat)) (.func (.func g) #[] #[]) 133
  rw [World.size_alloc] at u0 u1 hUl
  rw [hU]
  have GU := GM.trans gU
  have k0 := (GU.cell (p := ⟨w.heap.size, 0, none⟩) (by simp only; omega)).trans f0
  have k1 := (GU.cell (p := ⟨w.heap.size, 1, none⟩) (by simp only; omega)).trans f1
  have N2 := N1.grew GU
  have hAU := Lib.hid (hA2.out.grew HP.out GU)
  have hFU := Lib.hid (hF2.out.trans (Far.of_grew GU))
  have HCU := Lib.hid (HC U hAU.out).out
  have hU2 : w.heap.size + 2 ≤ U.heap.size := Nat.le_trans hw1 GU.size
  unfold BodyT at HCU
  clear GM hU gU hUs GU f0 f1 N1 hA2 hF2 HC HL hlk
  go_wp2_with (go_at_fn g; refine HCU.out.mono ?_; rintro e w3 ⟨j, A, m, c, rfl, hj, hs, hA3, hF3⟩; have z0 := (hF3.cell (p := ⟨w1.heap.size + 1, 0, none⟩) hUl (by simp only; omega)).trans u0; obtain ⟨n1, n2, n3, n4, n5⟩ := N2.far hF3 (by omega); have hs3 := hF3.size; replace hA3 := Lib.hid hA3; replace hF3 := Lib.hid hF3; replace hs := Lib.hid hs)
  refine bodyPost_ret (by simp [results, Tryz.results54, go_sem, n2, n3]; try rfl) rfl ?_
  have FW : Far (fun x => x = w.heap.size + 1) w3 ((w3.setCell ⟨w.heap.size + 1, 0, none⟩ (.int .u8 (kk : Nat))).setCell ⟨w.heap.size + 1, 1, none⟩ (.slice A m c)) := far_at _ _
  refine ⟨kk, A, m, c, j, rfl, hk, hj, fun h => ⟨(hs.out h).1, rfl, own_base ((hs.out h).2.far FW (fun y hy e => ?_)) (by omega)⟩, hA3.out.far HP.out FW (fun y hy => ⟨fun e => by omega, fun e => by omega, fun e => by have := HLT.out y e; omega⟩), (hFU.out.trans hF3.out).beyond FW (fun y hy => .inr (by omega))⟩
  have := (World.ownsRow.lt (hs.out h).2 y hy).1
  omega

set_option maxRecDepth 100000 in
set_option maxHeartbeats 4000000 in
theorem up_none (P : Looked R0 v F size L) (w : World) (a b : Nat) (h : AtK R0 v F w a b 0) (h1 : L.length = 0) :
    Calls Tryz.prog 54 #[bv a b size] w (UpT R0 v F a b 0 0 [] 0 w) := by
  have hlb := h.lb
  have hla := h.la
  obtain ⟨W, hW, gW, c0, hWlt, c1, hWs⟩ := newB w (.func (.func 51) #[] #[.pointer (some ⟨a, 0, none⟩), .pointer (some ⟨b, 0, none⟩)]) (.int .i64 (size : Nat)) 109
  obtain ⟨V, hV, gV, NV, hVs⟩ := newF W 51
  have HN := Lib.hid (look_next P V a b 0 (h.grew P (gW.trans gV)) (by omega))
  unfold NextT at HN
  rw [decide_eq_false (by omega : ¬ 0 < L.length)] at HN
  have HP := Lib.hid P
  have HLT := Lib.hid (fun y (hy : F y) => P.lt w y h.r hy)
  have e0 := (gV.cell (p := ⟨w.heap.size, 0, none⟩) hWlt).trans c0
  clear P h h1 c0 c1
  unfold bv
  generalize wd L 0 = x at *
  go_enter Tryz.func54, Tryz.ntmps54
  go_upto_region 1 with fail
  rw [hWs] at NV
  have GV := Lib.hid (gW.trans gV)
  clear hW hV gW gV hWlt hWs hVs
  go_wp2_with fail
  refine HN.out.mono ?_
  rintro e w1 ⟨rfl, hA1, hF1⟩
  have N1 := NV.far hF1 (by omega)
  have hF2 := Lib.hid ((Far.of_grew GV.out).trans hF1)
  have hA2 := Lib.hid hA1
  obtain ⟨n1, n2, n3, n4, n5⟩ := N1
  clear hF1 hA1 HN NV e0 GV
  go_wp2_with fail
  refine bodyPost_ret (by simp [results, Tryz.results54, go_sem, n2, n3]; try rfl) rfl ?_
  have FW : Far (fun x => x = w.heap.size + 1) w1 ((w1.setCell ⟨w.heap.size + 1, 0, none⟩ (.int .u8 0)).setCell ⟨w.heap.size + 1, 1, none⟩ (.slice none 0 0)) := far_at _ _
  exact ⟨0, none, 0, 0, 0 + 1, rfl, by omega, by omega, fun h => by omega, hA2.out.far HP.out FW (fun y hy => ⟨fun e => by omega, fun e => by omega, fun e => by have := HLT.out y e; omega⟩), hF2.out.beyond FW (fun y hy => .inr (by omega))⟩
set_option maxRecDepth 100000 in
set_option maxHeartbeats 4000000 in
theorem up_other (P : Looked R0 v F size L) (w : World) (a b : Nat) (h : AtK R0 v F w a b 0) (x : Nat) (hx : wd L 0 = x) (h1 : 0 < L.length)
    (hl : ∀ w b, w.heap[b]? = some (.map kindsOf 3) → Sem.run Tryz.prog (Instr.lookup 135 (.map (some b)) (.int .u8 (x : Nat)) true) w = .ok (.tuple #[.agg #[.int .u8 0, .nilFunc], .bool false]) w) :
    Calls Tryz.prog 54 #[bv a b size] w (UpT R0 v F a b 0 1 [] 0 w) := by
  have hlb := h.lb
  have hla := h.la
  obtain ⟨W, hW, gW, c0, hWlt, c1, hWs⟩ := newB w (.func (.func 51) #[] #[.pointer (some ⟨a, 0, none⟩), .pointer (some ⟨b, 0, none⟩)]) (.int .i64 (size : Nat)) 109
  obtain ⟨V, hV, gV, NV, hVs⟩ := newF W 51
  have HN := Lib.hid (look_next P V a b 0 (h.grew P (gW.trans gV)) (by omega))
  unfold NextT at HN
  rw [hx, decide_eq_true h1] at HN
  have HP := Lib.hid P
  have HL := fun w b q => Lib.hid (hl w b q)
  have HLT := Lib.hid (fun y (hy : F y) => P.lt w y h.r hy)
  have e0 := (gV.cell (p := ⟨w.heap.size, 0, none⟩) hWlt).trans c0
  have hX := hP_lt hx P.bytes
  clear hl P h hx h1 c0 c1
  unfold bv
  go_enter Tryz.func54, Tryz.ntmps54
  go_upto_region 1 with fail
  rw [hWs] at NV
  have hVs2 : V.heap.size = w.heap.size + 2 := by omega
  have GV := Lib.hid (gW.trans gV)
  clear hW hV gW gV hWlt hWs hVs
  go_wp2_with fail
  refine HN.out.mono ?_
  rintro e w1 ⟨rfl, hA1, hF1⟩
  have N1 := NV.far hF1 (by omega)
  have hw1 : w.heap.size + 2 ≤ w1.heap.size := by have := hF1.size; omega
  have hF2 := Lib.hid ((Far.of_grew GV.out).trans hF1)
  have hA2 := Lib.hid hA1
  clear hF1 hA1 HN NV e0 hVs2 GV
  go_upto_region 5 with (go_at_call 78; refine (prog_kinds _).mono ?_; rintro e w2 ⟨rfl, rfl⟩; have hlk := (HL (w1.alloc (.map kindsOf 3)) w1.heap.size (heap_alloc_new _ _)).out)
  have GM := (Grew.refl w1).alloc (.map kindsOf 3)
  obtain ⟨U, hU, gU, u0, hUl, u1, hUs⟩ := newB (w1.alloc (.map kindsOf 3)) (.int .u8 0) .nilFunc 133
  rw [hU]
  have GU := GM.trans gU
  obtain ⟨n1, n2, n3, n4, n5⟩ := N1.grew GU
  have hAU := Lib.hid (hA2.out.grew HP.out GU)
  have hFU := Lib.hid (hF2.out.trans (Far.of_grew GU))
  clear GM hU gU hUs GU N1 hA2 hF2 HL hlk u0 u1 hUl
  go_wp2_with fail
  refine bodyPost_ret (by simp [results, Tryz.results54, go_sem, n2, n3]; try rfl) rfl ?_
  have FW : Far (fun x => x = w.heap.size + 1) U ((U.setCell ⟨w.heap.size + 1, 0, none⟩ (.int .u8 0)).setCell ⟨w.heap.size + 1, 1, none⟩ (.slice none 0 0)) := far_at _ _
  exact ⟨0, none, 0, 0, 0 + 1, rfl, by omega, by omega, fun h => by omega, hAU.out.far HP.out FW (fun y hy => ⟨fun e => by omega, fun e => by omega, fun e => by have := HLT.out y e; omega⟩), hFU.out.beyond FW (fun y hy => .inr (by omega))⟩

/-- What stands at a begin up to its body, the frame's kind, its body, and how many bytes that takes. -/
def upS (size : Nat) (L : List Nat) : Nat := if L.length = 0 then 0 else if wd L 0 = 36 then nmeaS L else if wd L 0 = 181 then ubxS size L else if wd L 0 = 160 then sirfS size L else 1
def upK (L : List Nat) : Nat := if wd L 0 = 36 then 1 else if wd L 0 = 181 then 2 else if wd L 0 = 160 then 3 else 0
def upB (L : List Nat) : List Nat := if wd L 0 = 36 then (L.drop 1).takeWhile may else if wd L 0 = 181 then wd L 2 :: wd L 3 :: (L.drop 6).take (ubxN L) else if wd L 0 = 160 then (L.drop 4).take (sirfN L) else []
def upN (L : List Nat) : Nat := if wd L 0 = 36 then ((L.drop 1).takeWhile may).length + 2 else if wd L 0 = 181 then 6 + ubxN L else if wd L 0 = 160 then 4 + sirfN L else 0
theorem UpT.to {kk st n : Nat} {ns : List Nat} {e : Ending} {kk' st' n' : Nat} {ns' : List Nat} (h : UpT R0 v F a b kk st ns n w e w') (h1 : st' = st) (h2 : st = 2 → kk' = kk ∧ ns' = ns ∧ n' = n) : UpT R0 v F a b kk' st' ns' n' w e w' := by
  subst h1
  obtain ⟨k, A, m, c, j, he, hk, hj, hs, hA, hF⟩ := h
  refine ⟨k, A, m, c, j, he, hk, hj, fun h => ?_, hA, hF⟩
  obtain ⟨rfl, rfl, rfl⟩ := h2 h
  exact hs h
theorem find_none (x : Nat) (h1 : x ≠ 36) (h2 : x ≠ 181) (h3 : x ≠ 160) : Instr.findNow (.int .u8) (.int .u8 (x : Int)) kindsOf.toList 0 = some none := by
  have e1 : ((x : Int) == 36) = false := by simpa using (by omega : ¬ (x : Int) = 36)
  have e2 : ((x : Int) == 181) = false := by simpa using (by omega : ¬ (x : Int) = 181)
  have e3 : ((x : Int) == 160) = false := by simpa using (by omega : ¬ (x : Int) = 160)
  simp only [kindsOf, Instr.findNow, Instr.sameNow, if_true, e1, e2, e3]
set_option maxRecDepth 100000 in
theorem look_up (P : Looked R0 v F size L) (w : World) (a b : Nat) (h : AtK R0 v F w a b 0) :
    Calls Tryz.prog 54 #[bv a b size] w (UpT R0 v F a b (upK L) (upS size L) (upB L) (upN L) w) := by
  by_cases h0 : L.length = 0
  · exact (up_none P w a b h h0).mono fun e w' q => q.to (by unfold upS; rw [if_pos h0]) (fun h => by omega)
  · by_cases h36 : wd L 0 = 36
    · exact (up_body P w a b h 36 1 103 _ _ _ h36 (by omega) (fun w b hb => run_look w b 36 0 _ hb rfl) (fun _ _ => rfl) (by omega) (fun w' q => look_nmea P w' a b q (by omega))).mono fun e w' q => q.to (by unfold upS; rw [if_neg h0, if_pos h36]) (fun h => ⟨by unfold upK; rw [if_pos h36], by unfold upB; rw [if_pos h36], by unfold upN; rw [if_pos h36]⟩)
    · by_cases h181 : wd L 0 = 181
      · exact (up_body P w a b h 181 2 104 _ _ _ h181 (by omega) (fun w b hb => run_look w b 181 1 _ hb rfl) (fun _ _ => rfl) (by omega) (fun w' q => look_ubx P w' a b q (by omega))).mono fun e w' q => q.to (by unfold upS; rw [if_neg h0, if_neg h36, if_pos h181]) (fun h => ⟨by unfold upK; rw [if_neg h36, if_pos h181], by unfold upB; rw [if_neg h36, if_pos h181], by unfold upN; rw [if_neg h36, if_pos h181]⟩)
      · by_cases h160 : wd L 0 = 160
        · exact (up_body P w a b h 160 3 105 _ _ _ h160 (by omega) (fun w b hb => run_look w b 160 2 _ hb rfl) (fun _ _ => rfl) (by omega) (fun w' q => look_sirf P w' a b q (by omega))).mono fun e w' q => q.to (by unfold upS; rw [if_neg h0, if_neg h36, if_neg h181, if_pos h160]) (fun h => ⟨by unfold upK; rw [if_neg h36, if_neg h181, if_pos h160], by unfold upB; rw [if_neg h36, if_neg h181, if_pos h160], by unfold upN; rw [if_neg h36, if_neg h181, if_pos h160]⟩)
        · exact (up_other P w a b h _ rfl (by omega) (fun w b hb => run_lookN w b _ hb (find_none _ h36 h181 h160))).mono fun e w' q => q.to (by unfold upS; rw [if_neg h0, if_neg h36, if_neg h181, if_neg h160]) (fun h => by omega)
end
/- The program's frames: what it finds at a begin is what the document says stands there. -/
theorem common_split (n : Nat) : ∀ (xs ys : List Nat), n ≤ xs.length → n ≤ ys.length → (∀ i, i < n → wd xs i = wd ys i) → common xs ys = n + common (xs.drop n) (ys.drop n) := by
  induction n with
  | zero => intro xs ys _ _ _; simp
  | succ n ih =>
    intro xs ys hx hy h
    match xs, ys, hx, hy with
    | x :: xs, y :: ys, hx, hy =>
      have h0 := h 0 (by omega)
      simp [wd] at h0
      subst h0
      have := ih xs ys (by simpa using hx) (by simpa using hy) (fun i hi => by have := h (i + 1) (by omega); simpa [wd] using this)
      simp only [common, if_true, List.drop_succ_cons]
      omega
theorem wd_cons_succ (x : Nat) (xs : List Nat) (i : Nat) : wd (x :: xs) (i + 1) = wd xs i := by simp [wd]
theorem wd_take (xs : List Nat) (n i : Nat) (h : i < n) : wd (xs.take n) i = wd xs i := by
  unfold wd
  rw [List.getD_eq_getElem?_getD, List.getD_eq_getElem?_getD, List.getElem?_take, if_pos h]
theorem takeWhile_take (xs : List Nat) (p : Nat → Bool) : xs.takeWhile p = xs.take (xs.takeWhile p).length := by
  induction xs with
  | nil => rfl
  | cons x xs ih =>
    rw [List.takeWhile_cons]
    by_cases h : p x = true
    · rw [if_pos h, List.length_cons, List.take_succ_cons, ← ih]
    · rw [if_neg h]; rfl
theorem takeWhile_all' (xs : List Nat) (p : Nat → Bool) : (xs.takeWhile p).all p = true := by
  induction xs with
  | nil => rfl
  | cons x xs ih =>
    rw [List.takeWhile_cons]
    by_cases h : p x = true
    · rw [if_pos h, List.all_cons, h, ih]; rfl
    · rw [if_neg h]; rfl

/-- What the program tells of a begin, by what the document says of it. -/
def prS (n : Nat) : Nat := if n = 1 then 2 else if n = 2 then 1 else 0
/-- What a full ring makes of it. -/
def fullS (size : Nat) (L : List Nat) (s : Nat) : Nat := if s = 0 ∧ L.length = size ∧ 0 < L.length then 1 else s
/-- The body is there, and all its bytes up to it are those of the frame. -/
theorem stand_there (size : Nat) (L : List Nat) (h0 : 0 < L.length) (k : Nat) (ns : List Nat) (n : Nat) (hb : bodyOf size L = (k, ns, true, false)) (hn : n ≤ L.length) (hw : n ≤ (frameBytes k ns).length) (he : ∀ i, i < n → wd (frameBytes k ns) i = wd L i) :
    (fullS size L (expS ((frameBytes k ns).drop n) L n) = prS (standOf size L).1) ∧ (fullS size L (expS ((frameBytes k ns).drop n) L n) = 2 → standOf size L = (1, k, ns, (frameBytes k ns).length)) := by
  have hc := common_split n (frameBytes k ns) L hw hn he
  have hst := stand_eq h0 hb
  generalize frameBytes k ns = all at *
  have hd : (all.drop n).length = all.length - n := List.length_drop ..
  have hl := (common_le (all.drop n) (L.drop n)).1
  rw [hd] at hl
  unfold expS fullS prS
  rw [hd]
  rw [hc] at hst
  generalize common (all.drop n) (L.drop n) = c at *
  simp only [Bool.false_eq_true, if_false, true_and] at hst
  by_cases h1 : c = all.length - n
  · rw [if_pos (by omega)] at hst
    rw [if_pos h1, hst]
    simp
  · rw [if_neg (by omega)] at hst
    rw [if_neg h1]
    by_cases h2 : n + c < L.length
    · rw [if_pos (by omega)] at hst
      rw [if_pos h2, hst]
      simp
    · rw [if_neg (by omega)] at hst
      rw [if_neg h2]
      by_cases h3 : L.length = size
      · rw [if_pos h3] at hst
        rw [hst, if_pos ⟨rfl, h3, h0⟩]
        simp
      · rw [if_neg h3] at hst
        rw [hst, if_neg (fun h => h3 h.2.1)]
        simp
/-- The body is not there, and nothing is wrong: it is short, but not in a full ring. -/
theorem stand_short (size : Nat) (L : List Nat) (h0 : 0 < L.length) (k : Nat) (ns : List Nat) (hb : bodyOf size L = (k, ns, false, false)) : fullS size L 0 = prS (standOf size L).1 ∧ fullS size L 0 ≠ 2 := by
  have hst := stand_eq h0 hb
  simp only [Bool.false_eq_true, if_false, false_and] at hst
  unfold fullS prS
  by_cases h3 : L.length = size
  · rw [if_pos h3] at hst
    rw [hst, if_pos ⟨rfl, h3, h0⟩]
    simp
  · rw [if_neg h3] at hst
    rw [hst, if_neg (fun h => h3 h.2.1)]
    simp
theorem stand_wrong (size : Nat) (L : List Nat) (h0 : 0 < L.length) (k : Nat) (ns : List Nat) (t : Bool) (hb : bodyOf size L = (k, ns, t, true)) : fullS size L 1 = prS (standOf size L).1 ∧ fullS size L 1 ≠ 2 := by
  have hst := stand_eq h0 hb
  simp only [if_true] at hst
  unfold fullS prS
  rw [hst]
  simp

/-- All that the program finds at a begin. -/
def lookS (size : Nat) (L : List Nat) : Nat := fullS size L (if upS size L = 2 then expS ((frameBytes (upK L) (upB L)).drop (upN L)) L (upN L) else upS size L)
def Finds (size : Nat) (L : List Nat) : Prop :=
  lookS size L = prS (standOf size L).1 ∧ (lookS size L = 2 → upS size L = 2 ∧ standOf size L = (1, upK L, upB L, (frameBytes (upK L) (upB L)).length)) ∧ (upS size L = 2 → upN L ≤ L.length ∧ upN L < (frameBytes (upK L) (upB L)).length ∧ Bytes (upB L) ∧ (upB L).length ≤ 4200)
theorem finds_no (size : Nat) (L : List Nat) (s : Nat) (hs : upS size L = s) (h2 : s ≠ 2) (h : fullS size L s = prS (standOf size L).1 ∧ fullS size L s ≠ 2) : Finds size L := by
  have e : lookS size L = fullS size L s := by unfold lookS; rw [hs, if_neg h2]
  exact ⟨e.trans h.1, fun h' => absurd (e.symm.trans h') h.2, fun h' => absurd (hs.symm.trans h') h2⟩
theorem finds_there (size : Nat) (L : List Nat) (h0 : 0 < L.length) (hs : upS size L = 2) (hb : bodyOf size L = (upK L, upB L, true, false)) (hn : upN L ≤ L.length) (hw : upN L < (frameBytes (upK L) (upB L)).length) (he : ∀ i, i < upN L → wd (frameBytes (upK L) (upB L)) i = wd L i) (hB : Bytes (upB L)) (hl : (upB L).length ≤ 4200) : Finds size L := by
  have h := stand_there size L h0 _ _ _ hb hn (Nat.le_of_lt hw) he
  have e : lookS size L = fullS size L (expS ((frameBytes (upK L) (upB L)).drop (upN L)) L (upN L)) := by unfold lookS; rw [if_pos hs]
  exact ⟨e.trans h.1, fun h' => ⟨hs, h.2 (e.symm.trans h')⟩, fun _ => ⟨hn, hw, hB, hl⟩⟩
theorem bytes_take {ns : List Nat} (h : Bytes ns) (n : Nat) : Bytes (ns.take n) := fun i => by
  by_cases hi : i < n
  · rw [wd_take _ _ _ hi]; exact h i
  · unfold wd
    rw [List.getD_eq_getElem?_getD, List.getElem?_take, if_neg hi]
    decide

theorem finds (size : Nat) (L : List Nat) (hB : Bytes L) (hl : L.length ≤ size) (hs : size ≤ 4096) : Finds size L := by
  by_cases h0 : L.length = 0
  · obtain rfl : L = [] := List.eq_nil_of_length_eq_zero h0
    have hs0 : upS size [] = 0 := rfl
    have hst : standOf size [] = (0, 0, [], 0) := rfl
    refine finds_no size [] 0 hs0 (by omega) ⟨?_, ?_⟩
    · rw [hst]; unfold fullS prS; simp
    · unfold fullS; simp
  · have h0' : 0 < L.length := by omega
    by_cases h36 : wd L 0 = 36
    · have hS : upS size L = nmeaS L := by unfold upS; rw [if_neg h0, if_pos h36]
      have hK : upK L = 1 := by unfold upK; rw [if_pos h36]
      have hBd : upB L = (L.drop 1).takeWhile may := by unfold upB; rw [if_pos h36]
      have hN : upN L = ((L.drop 1).takeWhile may).length + 2 := by unfold upN; rw [if_pos h36]
      have hb : bodyOf size L = (if 76 < ((L.drop 1).takeWhile may).length then (1, (L.drop 1).takeWhile may, false, true) else (1, (L.drop 1).takeWhile may, decide (((L.drop 1).takeWhile may).length + 1 < L.length), false)) := by unfold bodyOf; rw [if_pos h36]
      have htt := takeWhile_take (L.drop 1) may
      have hta := takeWhile_all' (L.drop 1) may
      unfold nmeaS at hS
      generalize (L.drop 1).takeWhile may = T at *
      by_cases h76 : 76 < T.length
      · rw [if_pos h76] at hS hb
        exact finds_no size L 1 hS (by omega) (stand_wrong size L h0' _ _ _ hb)
      · rw [if_neg h76] at hS hb
        by_cases hlt : T.length + 1 < L.length
        · rw [if_pos hlt] at hS
          rw [decide_eq_true hlt] at hb
          have hfe : frameErr 1 T = 0 := by unfold frameErr; simp only [if_true, if_neg h76, hta]
          have hfb : frameBytes 1 T = 36 :: (T ++ [42, digit (xorOf T / 16), digit (xorOf T % 16), 13, 10]) := by unfold frameBytes; rw [if_pos hfe]; unfold frameRow; rw [if_pos rfl]
          have hlen : (frameBytes 1 T).length = T.length + 6 := by rw [hfb]; simp
          have hpre : ∀ i, i < T.length + 1 → wd (frameBytes 1 T) i = wd L i := fun i hi => by
            rw [hfb]
            cases i with
            | zero => rw [h36]; rfl
            | succ i =>
              rw [wd_cons_succ, wd_append_left (by omega), htt, wd_take _ _ _ (by omega), wd_cut, Nat.add_comm]
          by_cases h42 : wd L (T.length + 1) = 42
          · rw [if_pos h42] at hS
            refine finds_there size L h0' hS (by rw [hb, hK, hBd]) (by omega) (by rw [hK, hBd, hN, hlen]; omega) (fun i hi => ?_) ?_ (by rw [hBd]; omega)
            · rw [hK, hBd]
              rw [hN] at hi
              by_cases hi2 : i < T.length + 1
              · exact hpre i hi2
              · obtain rfl : i = T.length + 1 := by omega
                rw [h42, hfb, wd_cons_succ, show T.length = T.length + 0 from rfl, wd_append_right]; rfl
            · rw [hBd, htt]; exact bytes_take (bytes_drop hB 1) _
          · rw [if_neg h42] at hS
            have hc : common (frameBytes 1 T) L = T.length + 1 := common_eq _ _ _ hpre (by omega) (by omega) (.inr (.inr (by
              rw [hfb, wd_cons_succ, show wd (T ++ [42, digit (xorOf T / 16), digit (xorOf T % 16), 13, 10]) T.length = 42 from by rw [show T.length = T.length + 0 from rfl, wd_append_right]; rfl]
              exact fun e => h42 e.symm)))
            have hst := stand_eq h0' hb
            simp only [Bool.false_eq_true, if_false, true_and] at hst
            rw [hc, if_neg (by omega), if_pos hlt] at hst
            refine finds_no size L 1 hS (by omega) ⟨?_, ?_⟩
            · rw [hst]; unfold fullS prS; simp
            · unfold fullS; simp
        · rw [if_neg hlt] at hS
          rw [decide_eq_false hlt] at hb
          exact finds_no size L 0 hS (by omega) (stand_short size L h0' _ _ hb)
    · by_cases h181 : wd L 0 = 181
      · have hS : upS size L = ubxS size L := by unfold upS; rw [if_neg h0, if_neg h36, if_pos h181]
        have hK : upK L = 2 := by unfold upK; rw [if_neg h36, if_pos h181]
        have hBd : upB L = wd L 2 :: wd L 3 :: (L.drop 6).take (ubxN L) := by unfold upB; rw [if_neg h36, if_pos h181]
        have hN : upN L = 6 + ubxN L := by unfold upN; rw [if_neg h36, if_pos h181]
        have hn : wd L 4 + 256 * wd L 5 = ubxN L := by unfold ubxN; omega
        have hb : bodyOf size L = (if 1 < L.length ∧ wd L 1 ≠ 98 then (2, [], false, true) else if L.length < 6 then (2, [], false, false) else if 512 < ubxN L ∨ size < ubxN L + 8 then (2, [], false, true) else if L.length < 6 + ubxN L then (2, [], false, false) else (2, wd L 2 :: wd L 3 :: (L.drop 6).take (ubxN L), true, false)) := by
          unfold bodyOf; rw [if_neg h36, if_pos h181, hn]
        unfold ubxS at hS
        by_cases c1 : L.length ≤ 1
        · rw [if_pos c1] at hS
          rw [if_neg (by omega), if_pos (by omega)] at hb
          exact finds_no size L 0 hS (by omega) (stand_short size L h0' _ _ hb)
        · rw [if_neg c1] at hS
          by_cases c2 : wd L 1 ≠ 98
          · rw [if_pos c2] at hS
            rw [if_pos ⟨by omega, c2⟩] at hb
            exact finds_no size L 1 hS (by omega) (stand_wrong size L h0' _ _ _ hb)
          · rw [if_neg c2] at hS
            rw [if_neg (fun h => c2 h.2)] at hb
            by_cases c3 : L.length < 6
            · rw [if_pos c3] at hS hb
              exact finds_no size L 0 hS (by omega) (stand_short size L h0' _ _ hb)
            · rw [if_neg c3] at hS hb
              by_cases c4 : 512 < ubxN L ∨ size < ubxN L + 8
              · rw [if_pos c4] at hS hb
                exact finds_no size L 1 hS (by omega) (stand_wrong size L h0' _ _ _ hb)
              · rw [if_neg c4] at hS hb
                by_cases c5 : L.length < 6 + ubxN L
                · rw [if_pos c5] at hS hb
                  exact finds_no size L 0 hS (by omega) (stand_short size L h0' _ _ hb)
                · rw [if_neg c5] at hS hb
                  have htl : ((L.drop 6).take (ubxN L)).length = ubxN L := by rw [List.length_take, List.length_drop]; omega
                  have hfe : frameErr 2 (wd L 2 :: wd L 3 :: (L.drop 6).take (ubxN L)) = 0 := by
                    unfold frameErr
                    rw [if_neg (by omega), if_pos rfl, if_neg (by simp), if_neg (by rw [List.length_cons, List.length_cons, htl]; omega)]
                  have hrow : frameBytes 2 (wd L 2 :: wd L 3 :: (L.drop 6).take (ubxN L)) = 181 :: 98 :: wd L 2 :: wd L 3 :: (ubxN L % 256) :: (ubxN L / 256) :: ((L.drop 6).take (ubxN L) ++ [fletA (ubxRow (wd L 2 :: wd L 3 :: (L.drop 6).take (ubxN L))), fletB (ubxRow (wd L 2 :: wd L 3 :: (L.drop 6).take (ubxN L)))]) := by
                    unfold frameBytes
                    rw [if_pos hfe]
                    unfold frameRow
                    rw [if_neg (by omega), if_pos rfl]
                    have hu : ubxRow (wd L 2 :: wd L 3 :: (L.drop 6).take (ubxN L)) = wd L 2 :: wd L 3 :: (ubxN L % 256) :: (ubxN L / 256) :: ((L.drop 6).take (ubxN L)) := by
                      unfold ubxRow
                      rw [show (wd L 2 :: wd L 3 :: (L.drop 6).take (ubxN L)).length - 2 = ubxN L by rw [List.length_cons, List.length_cons, htl]; omega]
                      rfl
                    rw [hu]
                    rfl
                  have hlen : (frameBytes 2 (wd L 2 :: wd L 3 :: (L.drop 6).take (ubxN L))).length = ubxN L + 8 := by rw [hrow]; simp only [List.length_cons, List.length_append, List.length_nil, htl]
                  have b4 := hB 4
                  have b5 := hB 5
                  refine finds_there size L h0' hS (by rw [hb, hK, hBd]) (by omega) (by rw [hK, hBd, hN, hlen]; omega) (fun i hi => ?_) ?_ (by rw [hBd, List.length_cons, List.length_cons, htl]; omega)
                  · rw [hK, hBd, hrow]
                    rw [hN] at hi
                    match i, hi with
                    | 0, _ => exact h181.symm
                    | 1, _ => show 98 = _; omega
                    | 2, _ => rfl
                    | 3, _ => rfl
                    | 4, _ => show ubxN L % 256 = _; omega
                    | 5, _ => show ubxN L / 256 = _; omega
                    | j + 6, hi =>
                      rw [wd_cons_succ, wd_cons_succ, wd_cons_succ, wd_cons_succ, wd_cons_succ, wd_cons_succ, wd_append_left (by omega), wd_take _ _ _ (by omega), wd_cut, Nat.add_comm]
                  · rw [hBd]
                    refine Bytes.of_mem (fun x hx => ?_)
                    simp only [List.mem_cons] at hx
                    rcases hx with rfl | rfl | hx
                    · exact hB 2
                    · exact hB 3
                    · obtain ⟨i, hi, rfl⟩ := List.getElem_of_mem hx
                      have := bytes_take (bytes_drop hB 6) (ubxN L) i
                      rwa [wd_lt hi] at this
      · by_cases h160 : wd L 0 = 160
        · have hS : upS size L = sirfS size L := by unfold upS; rw [if_neg h0, if_neg h36, if_neg h181, if_pos h160]
          have hK : upK L = 3 := by unfold upK; rw [if_neg h36, if_neg h181, if_pos h160]
          have hBd : upB L = (L.drop 4).take (sirfN L) := by unfold upB; rw [if_neg h36, if_neg h181, if_pos h160]
          have hN : upN L = 4 + sirfN L := by unfold upN; rw [if_neg h36, if_neg h181, if_pos h160]
          have hn : 256 * wd L 2 + wd L 3 = sirfN L := rfl
          have hb : bodyOf size L = (if 1 < L.length ∧ wd L 1 ≠ 162 then (3, [], false, true) else if L.length < 4 then (3, [], false, false) else if 1023 < sirfN L ∨ size < sirfN L + 8 then (3, [], false, true) else if L.length < 4 + sirfN L then (3, [], false, false) else (3, (L.drop 4).take (sirfN L), true, false)) := by
            unfold bodyOf; rw [if_neg h36, if_neg h181, if_pos h160, hn]
          unfold sirfS at hS
          by_cases c1 : L.length ≤ 1
          · rw [if_pos c1] at hS
            rw [if_neg (by omega), if_pos (by omega)] at hb
            exact finds_no size L 0 hS (by omega) (stand_short size L h0' _ _ hb)
          · rw [if_neg c1] at hS
            by_cases c2 : wd L 1 ≠ 162
            · rw [if_pos c2] at hS
              rw [if_pos ⟨by omega, c2⟩] at hb
              exact finds_no size L 1 hS (by omega) (stand_wrong size L h0' _ _ _ hb)
            · rw [if_neg c2] at hS
              rw [if_neg (fun h => c2 h.2)] at hb
              by_cases c3 : L.length < 4
              · rw [if_pos c3] at hS hb
                exact finds_no size L 0 hS (by omega) (stand_short size L h0' _ _ hb)
              · rw [if_neg c3] at hS hb
                by_cases c4 : 1023 < sirfN L ∨ size < sirfN L + 8
                · rw [if_pos c4] at hS hb
                  exact finds_no size L 1 hS (by omega) (stand_wrong size L h0' _ _ _ hb)
                · rw [if_neg c4] at hS hb
                  by_cases c5 : L.length < 4 + sirfN L
                  · rw [if_pos c5] at hS hb
                    exact finds_no size L 0 hS (by omega) (stand_short size L h0' _ _ hb)
                  · rw [if_neg c5] at hS hb
                    have htl : ((L.drop 4).take (sirfN L)).length = sirfN L := by rw [List.length_take, List.length_drop]; omega
                    have hfe : frameErr 3 ((L.drop 4).take (sirfN L)) = 0 := by
                      unfold frameErr
                      rw [if_neg (by omega), if_neg (by omega), if_pos rfl, if_neg (by rw [htl]; omega)]
                    have hrow : frameBytes 3 ((L.drop 4).take (sirfN L)) = 160 :: 162 :: (sirfN L / 256) :: (sirfN L % 256) :: ((L.drop 4).take (sirfN L) ++ [fifOf ((L.drop 4).take (sirfN L)) / 256, fifOf ((L.drop 4).take (sirfN L)) % 256, 176, 179]) := by
                      unfold frameBytes
                      rw [if_pos hfe]
                      unfold frameRow
                      rw [if_neg (by omega), if_neg (by omega), htl]
                      rfl
                    have hlen : (frameBytes 3 ((L.drop 4).take (sirfN L))).length = sirfN L + 8 := by rw [hrow]; simp only [List.length_cons, List.length_append, List.length_nil, htl]
                    have b4 := hB 2
                    have b5 := hB 3
                    refine finds_there size L h0' hS (by rw [hb, hK, hBd]) (by omega) (by rw [hK, hBd, hN, hlen]; omega) (fun i hi => ?_) (by rw [hBd]; exact bytes_take (bytes_drop hB 4) _) (by rw [hBd, htl]; omega)
                    rw [hK, hBd, hrow]
                    rw [hN] at hi
                    match i, hi with
                    | 0, _ => exact h160.symm
                    | 1, _ => show 162 = _; omega
                    | 2, _ => show sirfN L / 256 = _; omega
                    | 3, _ => show sirfN L % 256 = _; omega
                    | j + 4, hi =>
                      rw [wd_cons_succ, wd_cons_succ, wd_cons_succ, wd_cons_succ, wd_append_left (by omega), wd_take _ _ _ (by omega), wd_cut, Nat.add_comm]
        · have hS : upS size L = 1 := by unfold upS; rw [if_neg h0, if_neg h36, if_neg h181, if_neg h160]
          have hb : bodyOf size L = (0, [], false, true) := by unfold bodyOf; rw [if_neg h36, if_neg h181, if_neg h160]
          exact finds_no size L 1 hS (by omega) (stand_wrong size L h0' _ _ _ hb)
end Go.Proofs.YtlcmjedbdopglaaGreatDoor
