/-
  The program's frames: the kinds by their first byte; what stands at a begin, up to its body.
-/
import Derived.Test.YtkoklmecijejkaaFrpG
import Derived.MapKept
import Derived.Laws.EntriesVeiled
namespace Go.Proofs.Ytkoklmecijejkaa
open Go.RowKit
set_option linter.unusedVariables false

theorem heap_push_set (H : Array Obj) (o o' : Obj) : (H.push o).setIfInBounds H.size o' = H.push o' := by
  apply Array.ext_getElem?
  intro i
  rw [Array.getElem?_setIfInBounds, Array.getElem?_push, Array.getElem?_push]
  by_cases h : H.size = i
  · subst h; simp
  · rw [if_neg h, if_neg (fun e => h e.symm), if_neg (fun e => h e.symm)]
theorem run_ins (w : World) (es : Array MapEntry) (c : Nat) (x : Int) (v : Value) (hf : Instr.findNow (.int .u8) (.int .u8 x) es.toList 0 = some none) :
    Sem.run Try.prog (Instr.mapUpdate 86 (.map (some w.heap.size)) (.int .u8 x) v) (w.alloc (.map es c)) = .ok () (w.alloc (.map (es.push { key := .int .u8 x, val := v, born := c }) (c + 1))) := by
  have hb : (w.alloc (.map es c)).heap[w.heap.size]? = some (.map es c) := heap_alloc_new w _
  have hc : (Instr.checkKey false 10000 5 (.int .u8 x)).run Try.prog (w.alloc (.map es c)) = .ok () (w.alloc (.map es c)) := MapKept.run_checkKey (k := .int .u8 x) Try.underlying5 (by simp [MapKept.IsKey]) false 9999
  have e : (w.alloc (.map es c)).heap.setIfInBounds w.heap.size (.map (es.push { key := .int .u8 x, val := v, born := c }) (c + 1)) = (w.alloc (.map (es.push { key := .int .u8 x, val := v, born := c }) (c + 1))).heap := heap_push_set _ _ _
  simp [Instr.mapUpdate, run_underlying Try.underlying86, MapKept.run_getObj_map hb, hc, MapKept.run_findKey Try.underlying5 hf, MapKept.run_setObj_map _ hb, Result.andThen, e]
  rfl
/-- The kinds, as the map holds them. -/
def kindsOf : Array MapEntry := #[{ key := .int .u8 36, val := .agg #[.int .u8 1, .func (.func 58) #[] #[]], born := 0 }, { key := .int .u8 181, val := .agg #[.int .u8 2, .func (.func 59) #[] #[]], born := 1 }, { key := .int .u8 160, val := .agg #[.int .u8 3, .func (.func 60) #[] #[]], born := 2 }]
theorem prog_kinds (w : World) : Calls Try.prog 50 #[] w fun e w' => e = .returned (.map (some w.heap.size)) ∧ w' = w.alloc (.map kindsOf 3) := by
  have hmm := @run_makeMap Try.prog
  have i1 := run_ins w #[] 0 36 (.agg #[.int .u8 1, .func (.func 58) #[] #[]]) rfl
  have i2 := run_ins w #[{ key := .int .u8 36, val := .agg #[.int .u8 1, .func (.func 58) #[] #[]], born := 0 }] 1 181 (.agg #[.int .u8 2, .func (.func 59) #[] #[]]) rfl
  have i3 := run_ins w #[{ key := .int .u8 36, val := .agg #[.int .u8 1, .func (.func 58) #[] #[]], born := 0 }, { key := .int .u8 181, val := .agg #[.int .u8 2, .func (.func 59) #[] #[]], born := 1 }] 2 160 (.agg #[.int .u8 3, .func (.func 60) #[] #[]]) rfl
  go_enter Try.func50, Try.ntmps50
  go_wp2_with fail
  go_ret
  exact ⟨rfl, rfl⟩
theorem run_look (w : World) (b : Nat) (x : Int) (i : Nat) (v : Value) (hb : w.heap[b]? = some (.map kindsOf 3)) (hf : Instr.findNow (.int .u8) (.int .u8 x) kindsOf.toList 0 = some (some (i, v))) :
    Sem.run Try.prog (Instr.lookup 86 (.map (some b)) (.int .u8 x) true) w = .ok (.tuple #[v, .bool true]) w := by
  have hc : (Instr.checkKey kindsOf.isEmpty 10000 5 (.int .u8 x)).run Try.prog w = .ok () w := MapKept.run_checkKey (k := .int .u8 x) Try.underlying5 (by simp [MapKept.IsKey]) _ 9999
  simp [Instr.lookup, run_underlying Try.underlying86, MapKept.run_getObj_map hb, hc, MapKept.run_findKey Try.underlying5 hf, Result.andThen]
theorem kind_zero (w : World) : Sem.run Try.prog (zeroValue 84) w = .ok (.agg #[.int .u8 0, .nilFunc]) w := by kernel_rfl
theorem run_lookN (w : World) (b : Nat) (x : Int) (hb : w.heap[b]? = some (.map kindsOf 3)) (hf : Instr.findNow (.int .u8) (.int .u8 x) kindsOf.toList 0 = some none) :
    Sem.run Try.prog (Instr.lookup 86 (.map (some b)) (.int .u8 x) true) w = .ok (.tuple #[.agg #[.int .u8 0, .nilFunc], .bool false]) w := by
  have hc : (Instr.checkKey kindsOf.isEmpty 10000 5 (.int .u8 x)).run Try.prog w = .ok () w := MapKept.run_checkKey (k := .int .u8 x) Try.underlying5 (by simp [MapKept.IsKey]) _ 9999
  have kz := kind_zero w
  simp [Instr.lookup, run_underlying Try.underlying86, MapKept.run_getObj_map hb, hc, MapKept.run_findKey Try.underlying5 hf, Result.andThen, kz]

section
variable {R0 : World → Prop} {v : Value} {F : Nat → Prop} {size : Nat} {L : List Nat} {w w' : World} {a b k : Nat}
/-- The frame that stands here, as far as its body goes: 2 if it is there, 1 if it is wrong, 0 if it is short. -/
theorem hP_lt {L : List Nat} {x : Nat} (h : wd L 0 = x) (hB : Bytes L) : x < 256 := by have := hB 0; omega
def UpT (R0 : World → Prop) (v : Value) (F : Nat → Prop) (a b : Nat) (kk st : Nat) (ns : List Nat) (n : Nat) (w : World) (e : Ending) (w' : World) : Prop :=
  ∃ k A m c j, e = .returned (.tuple #[.agg #[.int .u8 (k : Nat), .slice A m c], .int .i64 (st : Nat)]) ∧ k < 256 ∧ j ≤ 5000 ∧ (st = 2 → j = n ∧ k = kk ∧ Own w.heap.size 5 .u8 w' (.slice A m c) ns) ∧ AtK R0 v F w' a b j ∧ Far (fun x => x = b) w w'
set_option maxRecDepth 100000 in
set_option maxHeartbeats 4000000 in
theorem up_body (P : Looked R0 v F size L) (w : World) (a b : Nat) (h : AtK R0 v F w a b 0) (x kk g st : Nat) (ns : List Nat) (n : Nat) (hx : wd L 0 = x) (h1 : 0 < L.length)
    (hl : ∀ w b, w.heap[b]? = some (.map kindsOf 3) → Sem.run Try.prog (Instr.lookup 86 (.map (some b)) (.int .u8 (x : Nat)) true) w = .ok (.tuple #[.agg #[.int .u8 (kk : Nat), .func (.func g) #[] #[]], .bool true]) w)
    (eg : ∀ args w, (callFunc g args).run Try.prog w = .ok (.enter g args) w) (hk : kk < 256)
    (hc : ∀ w', AtK R0 v F w' a b 1 → Calls Try.prog g #[bv a b size] w' (BodyT R0 v F L a b st ns n w')) :
    Calls Try.prog 40 #[bv a b size] w (UpT R0 v F a b kk st ns n w) := by
  have hlb := h.lb
  have hla := h.la
  obtain ⟨W, hW, gW, c0, hWlt, c1, hWs⟩ := newB w (.func (.func 37) #[] #[.pointer (some ⟨a, 0, none⟩), .pointer (some ⟨b, 0, none⟩)]) (.int .i64 (size : Nat)) 74
  obtain ⟨V, hV, gV, NV, hVs⟩ := newF W 34
  have HA := Lib.hid (h.grew P (gW.trans gV))
  have HN := Lib.hid (look_next P V a b 0 (h.grew P (gW.trans gV)) (by omega))
  unfold NextT at HN
  rw [hx, decide_eq_true h1] at HN
  have HP := Lib.hid P
  have HC := fun w' q => Lib.hid (hc w' q)
  have HLT := Lib.hid (fun y (hy : F y) => P.lt w y h.r hy)
  have HL := fun w b q => Lib.hid (hl w b q)
  have e0 := (gV.cell (p := ⟨w.heap.size, 0, none⟩) hWlt).trans c0
  have e1 := (gV.cell (p := ⟨w.heap.size, 1, none⟩) hWlt).trans c1
  have hX := hP_lt hx P.bytes
  clear hc hl P h hx h1 c0 c1
  unfold bv at HC ⊢
  go_enter Try.func40, Try.ntmps40
  go_upto_region 1 with fail
  rw [hWs] at NV
  have hVs2 : V.heap.size = w.heap.size + 2 := by omega
  have GV := Lib.hid (gW.trans gV)
  clear hW hV gW gV hWlt hWs hVs
  go_wp2_with fail
  refine HN.out.mono ?_
  rintro e w1 ⟨rfl, hA1, hF1⟩
  have f0 := (hF1.cell (p := ⟨w.heap.size, 0, none⟩) (by simp only; omega) (by simp only; omega)).trans e0
  have f1 := (hF1.cell (p := ⟨w.heap.size, 1, none⟩) (by simp only; omega) (by simp only; omega)).trans e1
  have N1 := NV.far hF1 (by omega)
  have hw1 : w.heap.size + 2 ≤ w1.heap.size := by have := hF1.size; omega
  have hF2 := Lib.hid ((Far.of_grew GV.out).trans hF1)
  have hA2 := Lib.hid hA1
  clear hF1 hA1 HN NV e0 e1 hVs2 GV HA
  go_upto_region 5 with (go_at_call 50; refine (prog_kinds _).mono ?_; rintro e w2 ⟨rfl, rfl⟩; have hlk := (HL (w1.alloc (.map kindsOf 3)) w1.heap.size (heap_alloc_new _ _)).out)
  have GM := (Grew.refl w1).alloc (.map kindsOf 3)
  obtain ⟨U, hU, gU, u0, hUl, u1, hUs⟩ := newB (w1.alloc (.map kindsOf 3)) (.int .u8 (kk : Nat)) (.func (.func g) #[] #[]) 84
  rw [World.size_alloc] at u0 u1 hUl
  rw [hU]
  have GU := GM.trans gU
  have k0 := (GU.cell (p := ⟨w.heap.size, 0, none⟩) (by simp only; omega)).trans f0
  have k1 := (GU.cell (p := ⟨w.heap.size, 1, none⟩) (by simp only; omega)).trans f1
  have N2 := N1.grew GU
  have hAU := Lib.hid (hA2.out.grew HP.out GU)
  have hFU := Lib.hid (hF2.out.trans (Far.of_grew GU))
  have HCU := Lib.hid (HC U hAU.out).out
  have hU2 : w.heap.size + 2 ≤ U.heap.size := Nat.le_trans hw1 GU.size
  unfold BodyT at HCU
  clear GM hU gU hUs GU f0 f1 N1 hA2 hF2 HC HL hlk
  go_wp2_with (go_at_fn g; refine HCU.out.mono ?_; rintro e w3 ⟨j, A, m, c, rfl, hj, hs, hA3, hF3⟩; have z0 := (hF3.cell (p := ⟨w1.heap.size + 1, 0, none⟩) hUl (by simp only; omega)).trans u0; obtain ⟨n1, n2, n3, n4, n5⟩ := N2.far hF3 (by omega); have hs3 := hF3.size; replace hA3 := Lib.hid hA3; replace hF3 := Lib.hid hF3; replace hs := Lib.hid hs)
  refine bodyPost_ret (by simp [results, Try.results40, go_sem, n2, n3]; try rfl) rfl ?_
  have FW : Far (fun x => x = w.heap.size + 1) w3 ((w3.setCell ⟨w.heap.size + 1, 0, none⟩ (.int .u8 (kk : Nat))).setCell ⟨w.heap.size + 1, 1, none⟩ (.slice A m c)) := far_at _ _
  refine ⟨kk, A, m, c, j, rfl, hk, hj, fun h => ⟨(hs.out h).1, rfl, own_base ((hs.out h).2.far FW (fun y hy e => ?_)) (by omega)⟩, hA3.out.far HP.out FW (fun y hy => ⟨fun e => by omega, fun e => by omega, fun e => by have := HLT.out y e; omega⟩), (hFU.out.trans hF3.out).beyond FW (fun y hy => .inr (by omega))⟩
  have := (World.ownsRow.lt (hs.out h).2 y hy).1
  omega

set_option maxRecDepth 100000 in
set_option maxHeartbeats 4000000 in
theorem up_none (P : Looked R0 v F size L) (w : World) (a b : Nat) (h : AtK R0 v F w a b 0) (h1 : L.length = 0) :
    Calls Try.prog 40 #[bv a b size] w (UpT R0 v F a b 0 0 [] 0 w) := by
  have hlb := h.lb
  have hla := h.la
  obtain ⟨W, hW, gW, c0, hWlt, c1, hWs⟩ := newB w (.func (.func 37) #[] #[.pointer (some ⟨a, 0, none⟩), .pointer (some ⟨b, 0, none⟩)]) (.int .i64 (size : Nat)) 74
  obtain ⟨V, hV, gV, NV, hVs⟩ := newF W 34
  have HN := Lib.hid (look_next P V a b 0 (h.grew P (gW.trans gV)) (by omega))
  unfold NextT at HN
  rw [decide_eq_false (by omega : ¬ 0 < L.length)] at HN
  have HP := Lib.hid P
  have HLT := Lib.hid (fun y (hy : F y) => P.lt w y h.r hy)
  have e0 := (gV.cell (p := ⟨w.heap.size, 0, none⟩) hWlt).trans c0
  clear P h h1 c0 c1
  unfold bv
  generalize wd L 0 = x at *
  go_enter Try.func40, Try.ntmps40
  go_upto_region 1 with fail
  rw [hWs] at NV
  have GV := Lib.hid (gW.trans gV)
  clear hW hV gW gV hWlt hWs hVs
  go_wp2_with fail
  refine HN.out.mono ?_
  rintro e w1 ⟨rfl, hA1, hF1⟩
  have N1 := NV.far hF1 (by omega)
  have hF2 := Lib.hid ((Far.of_grew GV.out).trans hF1)
  have hA2 := Lib.hid hA1
  obtain ⟨n1, n2, n3, n4, n5⟩ := N1
  clear hF1 hA1 HN NV e0 GV
  go_wp2_with fail
  refine bodyPost_ret (by simp [results, Try.results40, go_sem, n2, n3]; try rfl) rfl ?_
  have FW : Far (fun x => x = w.heap.size + 1) w1 ((w1.setCell ⟨w.heap.size + 1, 0, none⟩ (.int .u8 0)).setCell ⟨w.heap.size + 1, 1, none⟩ (.slice none 0 0)) := far_at _ _
  exact ⟨0, none, 0, 0, 0 + 1, rfl, by omega, by omega, fun h => by omega, hA2.out.far HP.out FW (fun y hy => ⟨fun e => by omega, fun e => by omega, fun e => by have := HLT.out y e; omega⟩), hF2.out.beyond FW (fun y hy => .inr (by omega))⟩
set_option maxRecDepth 100000 in
set_option maxHeartbeats 4000000 in
theorem up_other (P : Looked R0 v F size L) (w : World) (a b : Nat) (h : AtK R0 v F w a b 0) (x : Nat) (hx : wd L 0 = x) (h1 : 0 < L.length)
    (hl : ∀ w b, w.heap[b]? = some (.map kindsOf 3) → Sem.run Try.prog (Instr.lookup 86 (.map (some b)) (.int .u8 (x : Nat)) true) w = .ok (.tuple #[.agg #[.int .u8 0, .nilFunc], .bool false]) w) :
    Calls Try.prog 40 #[bv a b size] w (UpT R0 v F a b 0 1 [] 0 w) := by
  have hlb := h.lb
  have hla := h.la
  obtain ⟨W, hW, gW, c0, hWlt, c1, hWs⟩ := newB w (.func (.func 37) #[] #[.pointer (some ⟨a, 0, none⟩), .pointer (some ⟨b, 0, none⟩)]) (.int .i64 (size : Nat)) 74
  obtain ⟨V, hV, gV, NV, hVs⟩ := newF W 34
  have HN := Lib.hid (look_next P V a b 0 (h.grew P (gW.trans gV)) (by omega))
  unfold NextT at HN
  rw [hx, decide_eq_true h1] at HN
  have HP := Lib.hid P
  have HL := fun w b q => Lib.hid (hl w b q)
  have HLT := Lib.hid (fun y (hy : F y) => P.lt w y h.r hy)
  have e0 := (gV.cell (p := ⟨w.heap.size, 0, none⟩) hWlt).trans c0
  have hX := hP_lt hx P.bytes
  clear hl P h hx h1 c0 c1
  unfold bv
  go_enter Try.func40, Try.ntmps40
  go_upto_region 1 with fail
  rw [hWs] at NV
  have hVs2 : V.heap.size = w.heap.size + 2 := by omega
  have GV := Lib.hid (gW.trans gV)
  clear hW hV gW gV hWlt hWs hVs
  go_wp2_with fail
  refine HN.out.mono ?_
  rintro e w1 ⟨rfl, hA1, hF1⟩
  have N1 := NV.far hF1 (by omega)
  have hw1 : w.heap.size + 2 ≤ w1.heap.size := by have := hF1.size; omega
  have hF2 := Lib.hid ((Far.of_grew GV.out).trans hF1)
  have hA2 := Lib.hid hA1
  clear hF1 hA1 HN NV e0 hVs2 GV
  go_upto_region 5 with (go_at_call 50; refine (prog_kinds _).mono ?_; rintro e w2 ⟨rfl, rfl⟩; have hlk := (HL (w1.alloc (.map kindsOf 3)) w1.heap.size (heap_alloc_new _ _)).out)
  have GM := (Grew.refl w1).alloc (.map kindsOf 3)
  obtain ⟨U, hU, gU, u0, hUl, u1, hUs⟩ := newB (w1.alloc (.map kindsOf 3)) (.int .u8 0) .nilFunc 84
  rw [hU]
  have GU := GM.trans gU
  obtain ⟨n1, n2, n3, n4, n5⟩ := N1.grew GU
  have hAU := Lib.hid (hA2.out.grew HP.out GU)
  have hFU := Lib.hid (hF2.out.trans (Far.of_grew GU))
  clear GM hU gU hUs GU N1 hA2 hF2 HL hlk u0 u1 hUl
  go_wp2_with fail
  refine bodyPost_ret (by simp [results, Try.results40, go_sem, n2, n3]; try rfl) rfl ?_
  have FW : Far (fun x => x = w.heap.size + 1) U ((U.setCell ⟨w.heap.size + 1, 0, none⟩ (.int .u8 0)).setCell ⟨w.heap.size + 1, 1, none⟩ (.slice none 0 0)) := far_at _ _
  exact ⟨0, none, 0, 0, 0 + 1, rfl, by omega, by omega, fun h => by omega, hAU.out.far HP.out FW (fun y hy => ⟨fun e => by omega, fun e => by omega, fun e => by have := HLT.out y e; omega⟩), hFU.out.beyond FW (fun y hy => .inr (by omega))⟩

/-- What stands at a begin up to its body, the frame's kind, its body, and how many bytes that takes. -/
def upS (size : Nat) (L : List Nat) : Nat := if L.length = 0 then 0 else if wd L 0 = 36 then nmeaS L else if wd L 0 = 181 then ubxS size L else if wd L 0 = 160 then sirfS size L else 1
def upK (L : List Nat) : Nat := if wd L 0 = 36 then 1 else if wd L 0 = 181 then 2 else if wd L 0 = 160 then 3 else 0
def upB (L : List Nat) : List Nat := if wd L 0 = 36 then (L.drop 1).takeWhile may else if wd L 0 = 181 then wd L 2 :: wd L 3 :: (L.drop 6).take (ubxN L) else if wd L 0 = 160 then (L.drop 4).take (sirfN L) else []
def upN (L : List Nat) : Nat := if wd L 0 = 36 then ((L.drop 1).takeWhile may).length + 2 else if wd L 0 = 181 then 6 + ubxN L else if wd L 0 = 160 then 4 + sirfN L else 0
theorem UpT.to {kk st n : Nat} {ns : List Nat} {e : Ending} {kk' st' n' : Nat} {ns' : List Nat} (h : UpT R0 v F a b kk st ns n w e w') (h1 : st' = st) (h2 : st = 2 → kk' = kk ∧ ns' = ns ∧ n' = n) : UpT R0 v F a b kk' st' ns' n' w e w' := by
  subst h1
  obtain ⟨k, A, m, c, j, he, hk, hj, hs, hA, hF⟩ := h
  refine ⟨k, A, m, c, j, he, hk, hj, fun h => ?_, hA, hF⟩
  obtain ⟨rfl, rfl, rfl⟩ := h2 h
  exact hs h
theorem find_none (x : Nat) (h1 : x ≠ 36) (h2 : x ≠ 181) (h3 : x ≠ 160) : Instr.findNow (.int .u8) (.int .u8 (x : Int)) kindsOf.toList 0 = some none := by
  have e1 : ((x : Int) == 36) = false := by simpa using (by omega : ¬ (x : Int) = 36)
  have e2 : ((x : Int) == 181) = false := by simpa using (by omega : ¬ (x : Int) = 181)
  have e3 : ((x : Int) == 160) = false := by simpa using (by omega : ¬ (x : Int) = 160)
  simp only [kindsOf, Instr.findNow, Instr.sameNow, if_true, e1, e2, e3]
theorem look_up (P : Looked R0 v F size L) (w : World) (a b : Nat) (h : AtK R0 v F w a b 0) :
    Calls Try.prog 40 #[bv a b size] w (UpT R0 v F a b (upK L) (upS size L) (upB L) (upN L) w) := by
  by_cases h0 : L.length = 0
  · exact (up_none P w a b h h0).mono fun e w' q => q.to (by unfold upS; rw [if_pos h0]) (fun h => by omega)
  · by_cases h36 : wd L 0 = 36
    · exact (up_body P w a b h 36 1 58 _ _ _ h36 (by omega) (fun w b hb => run_look w b 36 0 _ hb rfl) (fun _ _ => rfl) (by omega) (fun w' q => look_nmea P w' a b q (by omega))).mono fun e w' q => q.to (by unfold upS; rw [if_neg h0, if_pos h36]) (fun h => ⟨by unfold upK; rw [if_pos h36], by unfold upB; rw [if_pos h36], by unfold upN; rw [if_pos h36]⟩)
    · by_cases h181 : wd L 0 = 181
      · exact (up_body P w a b h 181 2 59 _ _ _ h181 (by omega) (fun w b hb => run_look w b 181 1 _ hb rfl) (fun _ _ => rfl) (by omega) (fun w' q => look_ubx P w' a b q (by omega))).mono fun e w' q => q.to (by unfold upS; rw [if_neg h0, if_neg h36, if_pos h181]) (fun h => ⟨by unfold upK; rw [if_neg h36, if_pos h181], by unfold upB; rw [if_neg h36, if_pos h181], by unfold upN; rw [if_neg h36, if_pos h181]⟩)
      · by_cases h160 : wd L 0 = 160
        · exact (up_body P w a b h 160 3 60 _ _ _ h160 (by omega) (fun w b hb => run_look w b 160 2 _ hb rfl) (fun _ _ => rfl) (by omega) (fun w' q => look_sirf P w' a b q (by omega))).mono fun e w' q => q.to (by unfold upS; rw [if_neg h0, if_neg h36, if_neg h181, if_pos h160]) (fun h => ⟨by unfold upK; rw [if_neg h36, if_neg h181, if_pos h160], by unfold upB; rw [if_neg h36, if_neg h181, if_pos h160], by unfold upN; rw [if_neg h36, if_neg h181, if_pos h160]⟩)
        · exact (up_other P w a b h _ rfl (by omega) (fun w b hb => run_lookN w b _ hb (find_none _ h36 h181 h160))).mono fun e w' q => q.to (by unfold upS; rw [if_neg h0, if_neg h36, if_neg h181, if_neg h160]) (fun h => by omega)
end
end Go.Proofs.Ytkoklmecijejkaa
