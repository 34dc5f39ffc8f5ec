/-
  The program's dialogue: a command is sent; the next one is sent.
  The program's dialogue: a tick.
  The program's dialogue: a copy; calls of one that is not there.
-/
import Derived.Test.YtcdmbnbanopioaaDpgA
import Derived.Lib.SliceRun
namespace Go.Proofs.Ytcdmbnbanopioaa
open Go.RowKit
set_option linter.unusedVariables false

/- The program's dialogue: a command is sent; the next one is sent. -/
theorem own_litP {B : Nat} (w : World) (E : TypeId) (hB : B ≤ w.heap.size) : Own B E .u8 (w.alloc (.cells #[] E)) (.slice (some ⟨w.heap.size, 0, none⟩) 0 0) [] := Own.lit w .u8 E B hB [] (by decide)
theorem Grew.pushP {w0 w w' : World} {B : Nat} {E : TypeId} {k : IntKind} {v : Value} {ns : List Nat} (g : Grew w0 w) (h : Own B E k w v ns) (hB : w0.heap.size ≤ B) (hg : w.grownBy w' v.ownBlock) : Grew w0 w' :=
  Below.grown g hg g.size (fun b hb => Nat.le_trans hB (World.ownsRow.lt h b hb).1)
theorem Own.baseP {B B' : Nat} {E : TypeId} {k : IntKind} {w : World} {v : Value} {ns : List Nat} (h : Own B E k w v ns) (hB : B' ≤ B) : Own B' E k w v ns := by
  obtain ⟨h1, h2⟩ := h
  refine ⟨h1, ?_⟩
  rcases h2 with h2 | ⟨b, cap, cur, e, hb, hh, r⟩
  · exact .inl h2
  · exact .inr ⟨b, cap, cur, e, Nat.le_trans hB hb, hh, r⟩
-- [CLONE
set_option maxRecDepth 100000 in
set_option maxHeartbeats 2000000 in
theorem prg_clone (w : World) (v : Value) (S : List Nat) (hr : Row .u8 w v S) (hp : 0 < S.length) (hl : S.length ≤ 100000) :
    Calls Try.prog 23 #[v] w fun e w' => ∃ fv, e = .returned fv ∧ Own w.heap.size 5 .u8 w' fv S ∧ Grew w w' := by
  have HR := Lib.hid hr
  obtain ⟨A, c, rfl, hc, hrow⟩ := hr
  obtain ⟨b, o, rfl, hb, hcell⟩ := hrow hp
  have hpi : (0 : Int) < S.length := by omega
  have hV0 := own_litP (B := w.heap.size) w 5 (Nat.le_refl _)
  have gE := (Grew.refl w).alloc (.cells #[] 5)
  have hRV := HR.out.grew gE
  have HV0 := Lib.hid hV0
  have GE := Lib.hid gE
  have HRV := Lib.hid hRV
  clear hcell hrow hV0 gE hRV
  have hq := Lib.run_eql_slice_nil (P := Try.prog) w 26 5 (some ⟨b, o, none⟩) S.length c 0 0 Try.underlying26
  go_enter Try.func23, Try.ntmps23
  go_wp2_with (refine wpList_joinN _ rfl _ _ 26 rfl w.heap.size 5 .u8 1 Try.underlying26 infoU8 (.slice (some ⟨w.heap.size, 0, none⟩) 0 0) [] rfl HV0.out (.slice (some ⟨b, o, none⟩) S.length c) S rfl HRV.out (by simp only [List.length_nil]; omega) (by decide) (by simp) ?_; intro v2 w2 hown2 hgrow2 hnil2)
  go_wp2_with fail
  go_ret
  exact ⟨v2, rfl, by rw [List.nil_append] at hown2; exact hown2, Grew.pushP GE.out HV0.out (Nat.le_refl _) hgrow2⟩
-- CLONE]
section
variable {K : Nat → Prop} {g : Nat} {L : Value} {W : List Cmd} {dn ls : Nat} {now tmo : Int} {tries : Nat}
-- [SEND
set_option maxRecDepth 100000 in
set_option maxHeartbeats 4000000 in
theorem prg_send {x : Nat} {r : DRow} (w : World) (h : PrgAt K w g L (some (x, r)) W dn ls now tmo tries) (hm : r.many < 50) :
    Calls Try.prog 28 #[.pointer (some ⟨g, 0, none⟩)] w fun e w' => ∃ fv, e = .returned fv ∧ PrgAt K w' g L (some (x, ⟨r.c, r.st, now, r.many + 1⟩)) W dn ls now tmo tries ∧ Far (fun b => b = x) w w' ∧ Own w.heap.size 5 .u8 w' fv r.c.b := by
  obtain ⟨hn, v, hv⟩ := h.fly x r rfl
  have HH := Lib.hid h
  have lt := h.lt
  have c3 := h.c3
  have c6 := h.c6
  have s6 := hv.six
  unfold flyV at c3
  simp only at c3
  have e1 : IntKind.i64.wrap ((r.many : Int) + 1) = (r.many : Int) + 1 := IntWalk.i64_in _ (by omega)
  have F1 := Far.one w ⟨x, 4, none⟩ (.int .i64 ((r.many : Int) + 1))
  have t4 := s6.put4 (.int .i64 ((r.many : Int) + 1))
  have u3 := (F1.cell (p := ⟨g, 3, none⟩) lt (fun e => hn e.symm)).trans c3
  have u6 := (F1.cell (p := ⟨g, 6, none⟩) lt (fun e => hn e.symm)).trans c6
  have lt1 := Nat.lt_of_lt_of_le lt F1.size
  have HV := Lib.hid hv
  clear hv h
  obtain ⟨lx, d0, d1, d2, d3, d4, d5, g4, g5⟩ := s6
  go_enter Try.func28, Try.ntmps28
  go_upto_region 2 with fail
  generalize w.setCell ⟨x, 4, none⟩ (.int .i64 ((r.many : Int) + 1)) = w1 at F1 t4 u3 u6 lt1 ⊢
  clear lt c3 c6 lx d0 d1 d2 d3 d4 d5 g4 g5
  have T4 := Lib.hid t4
  obtain ⟨lx, d0, d1, d2, d3, d4, d5, g4, g5⟩ := t4
  go_region
  have F2 := ((F1.setCell (p := ⟨x, 5, none⟩) rfl (.int .i64 now)).trans (Far.of_grew (F := fun k => k = x) (Grew.refl _).drew))
  have t5 := ((T4.out.put5 (.int .i64 now)).far (Far.of_grew (F := fun _ => False) (Grew.refl _).drew) (fun q => q))
  generalize (w1.setCell ⟨x, 5, none⟩ (.int .i64 now)).drew = w2 at F2 t5 ⊢
  have hk : ∀ b, v.ownBlock = some b → ¬ b = x := fun b e q => HV.out.nk (by rw [← q]; exact HV.out.ob b e)
  have hrow := HV.out.cmd.row.far F2 (fun b e q => hk b e q)
  have hfly : FlyIn K w2 x ⟨r.c, r.st, now, r.many + 1⟩ v := .of_six (by rw [show ((r.many + 1 : Nat) : Int) = (r.many : Int) + 1 by omega]; exact t5) hrow ⟨HV.out.cmd.kw, HV.out.cmd.kc, HV.out.cmd.ki⟩ (by show r.many + 1 ≤ 50; omega) HH.out.kn HV.out.may HV.out.ob HV.out.nk
  have HP := Lib.hid (HH.out.flew F2 ⟨v, hfly⟩)
  have may := HV.out.may
  have HC := Lib.hid (prg_clone w2 v r.c.b hrow may.1 (by have := may.2.1; omega))
  have FF := Lib.hid F2
  have z3 := (HP.out).c3
  unfold flyV at z3
  simp only at z3
  have lt2 := HP.out.lt
  obtain ⟨ly, y0, _⟩ := t5
  clear F1 F2 T4 lx d0 d1 d2 d3 d4 d5 g4 g5 u3 u6 lt1 hfly hrow hk
  go_wp2_with (go_at_call 23; refine HC.out.mono ?_; rintro e w3 ⟨fv, rfl, ho, g3⟩)
  go_ret
  exact ⟨fv, rfl, HP.out.grew g3, FF.out.trans (Far.of_grew g3), ho.baseP FF.out.size⟩
-- SEND]
end
/-- The list from its second command on. -/
theorem CmdsAt.tail {X : Nat → Prop} {w : World} {b o n cap : Nat} {c : Cmd} {W : List Cmd} (h : CmdsAt X w (.slice (some ⟨b, o, none⟩) n cap) (c :: W)) (o2 : Nat) (ho : o2 = if cap = 1 then o else o + 4) :
    CmdsAt X w (.slice (some ⟨b, o2, none⟩) (n - 1) (cap - 1)) W := by
  obtain ⟨A, cc, e, hc, hr⟩ := h
  simp only [Value.slice.injEq, List.length_cons] at e hc
  obtain ⟨rfl, rfl, rfl⟩ := e
  refine ⟨_, _, by rw [show W.length + 1 - 1 = W.length by omega], by omega, fun hn => ?_⟩
  obtain ⟨b', o', e, hf⟩ := hr (by simp)
  cases e
  rw [if_neg (by omega)] at ho
  refine ⟨b, o2, rfl, fun i q hi => ?_⟩
  obtain ⟨fv, h1, h2⟩ := hf (i + 1) q (by simpa using hi)
  rw [show o + (i + 1) * 4 = o2 + i * 4 by omega] at h1
  exact ⟨fv, h1, h2⟩
/-- What a send of the next one tells. -/
def NextT (K : Nat → Prop) (g : Nat) (L : Value) (W : List Cmd) (dn ls : Nat) (now tmo : Int) (tries : Nat) (w : World) (e : Ending) (w' : World) : Prop :=
  match W with
  | [] => e = .returned (.tuple #[.slice none 0 0, .bool false]) ∧ Grew w w'
  | c :: W' => ∃ fv L', e = .returned (.tuple #[fv, .bool true]) ∧ Far (fun b => b = g) w w' ∧ Own w.heap.size 5 .u8 w' fv c.b ∧
      (c.wait = 0 → PrgAt K w' g L' none W' (dn + 1) ls now tmo tries) ∧
      (c.wait ≠ 0 → ∃ x, w.heap.size ≤ x ∧ (∀ b, fv.ownBlock = some b → b ≠ x) ∧ PrgAt K w' g L' (some (x, ⟨c, 1, now, 1⟩)) W' dn ls now tmo tries)
section
variable {K : Nat → Prop} {g : Nat} {L : Value} {W : List Cmd} {dn ls : Nat} {now tmo : Int} {tries : Nat}
-- [NEXT
set_option maxRecDepth 100000 in
set_option maxHeartbeats 4000000 in
theorem prg_sendNext (w : World) (h : PrgAt K w g L none W dn ls now tmo tries) (hd : dn < 50) :
    Calls Try.prog 26 #[.pointer (some ⟨g, 0, none⟩)] w (NextT K g L W dn ls now tmo tries w) := by
  have HH := Lib.hid h
  have lt := h.lt
  have c2 := h.c2
  have c3 := h.c3
  have f3 := h.f3
  have f2 := h.f2
  unfold flyV at c3
  cases W with
  | nil =>
    obtain ⟨A, c, rfl, hc, _⟩ := h.list
    clear h
    simp only [List.length_nil] at c2 hc ⊢
    go_enter Try.func26, Try.ntmps26
    go_wp2_with fail
    exact bodyPost_ret (by simp [results, Try.results26, go_sem]; try rfl) rfl ⟨rfl, Grew.refl _⟩
  | cons q W' =>
    obtain ⟨A, c, rfl, hc, hr⟩ := h.list
    obtain ⟨b, o, rfl, hcell⟩ := hr (by simp)
    obtain ⟨fv, hq, hX⟩ := hcell 0 q rfl
    have may := h.may q (by simp)
    have ll := h.ll
    have HQ := Lib.hid hq
    have hXf : ∀ b, fv.ownBlock = some b → K b := hX may.1
    have hKb := h.lb b rfl
    have HKg := Lib.hid (show ∀ b, K b → b ≠ g from fun b hb e => h.ng (e ▸ hb))
    obtain ⟨o2, ho2⟩ : ∃ o2, o2 = if c = 1 then o else o + 4 := ⟨_, rfl⟩
    have HT := Lib.hid (h.list.tail o2 ho2)
    have q0 := hq.c0
    have q1 := hq.c1
    have q2 := hq.c2
    have q3 := hq.c3
    have lb := hq.lt
    simp only [Nat.zero_mul, Nat.add_zero] at q0 q1 q2 q3
    obtain ⟨Af, cf, efv, hcf, _⟩ := hq.row
    simp only [List.length_cons] at c2 hc ll
    have hpos : (0 : Int) < (W'.length : Int) + 1 := by omega
    have hne : ¬ ((W'.length : Int) + 1) = 0 := by omega
    subst efv
    clear h hr hcell hq hX
    go_enter Try.func26, Try.ntmps26
    go_upto_region 4 with fail
    go_upto_region 5 with fail
    have eL : (if c = 1 then some (⟨b, o, none⟩ : Addr) else some ⟨b, o + 4, none⟩) = some ⟨b, o2, none⟩ := by rw [ho2]; split <;> rfl
    rw [eL]
    obtain ⟨Lq, hLq⟩ : ∃ Lq, Value.slice (some ⟨b, o2, none⟩) W'.length (c - 1) = Lq := ⟨_, rfl⟩
    have hLb : ∀ k, Lq.ownBlock = some k → K k := by
      intro k e
      rw [← hLq] at e
      simp [Value.ownBlock] at e
      rw [← e]; exact hKb
    rw [show (q :: W').length - 1 = W'.length from rfl, hLq] at HT
    rw [hLq]
    have s7 := (HH.out.seven.put3 (.pointer (some ⟨w.heap.size, 0, none⟩))).put2 Lq
    have F2 := (Far.one w ⟨g, 3, none⟩ (.pointer (some ⟨w.heap.size, 0, none⟩))).setCell (p := ⟨g, 2, none⟩) rfl Lq
    have z2 : ((w.setCell ⟨g, 3, none⟩ (.pointer (some ⟨w.heap.size, 0, none⟩))).setCell ⟨g, 2, none⟩ Lq).heap.size = w.heap.size := by simp [World.setCell]
    generalize (w.setCell ⟨g, 3, none⟩ (.pointer (some ⟨w.heap.size, 0, none⟩))).setCell ⟨g, 2, none⟩ Lq = w2 at s7 F2 z2 ⊢
    obtain ⟨W4, hW4, g4, T4⟩ := six_new w2 (.slice Af q.b.length cf) (.int .u8 (q.wait : Nat)) (.int .u8 (q.cls : Nat)) (.int .u8 (q.id : Nat)) (.int .i64 0) (.int .i64 0) 62
    rw [hW4]
    rw [z2] at T4
    clear hW4
    have F4 := F2.trans (Far.of_grew (F := fun k => k = g) g4)
    have s8 := s7.far (Far.of_grew (F := fun _ => False) g4) (fun q => q)
    have hrow := HQ.out.row.far F4 (fun k e => HKg.out k (hXf k e))
    have hfly : FlyIn K W4 w.heap.size ⟨q, 1, 0, 0⟩ (.slice Af q.b.length cf) := .of_six T4 hrow ⟨HQ.out.kw, HQ.out.kc, HQ.out.ki⟩ (show (0 : Nat) ≤ 50 by decide) (show -9223372036854775808 ≤ (0 : Int) ∧ (0 : Int) ≤ 9223372036854775807 by decide) may hXf (fun e => Nat.lt_irrefl _ (HH.out.kb _ e))
    have HP : PrgAt K W4 g Lq (some (w.heap.size, ⟨q, 1, 0, 0⟩)) W' dn ls now tmo tries :=
      HH.out.remake F4.size s8 (HT.out.farP F4 (fun x hx => (HH.out.may x (by simp [hx])).1) (fun k e => HKg.out k (hLb k e)) HKg.out) hLb (by omega) (fun x hx => HH.out.may x (by simp [hx])) (fun x r e => by cases e; exact ⟨fun e => by omega, _, hfly⟩) HH.out.kd HH.out.kn
    have HS := Lib.hid (prg_send W4 HP (show (0 : Nat) < 50 by decide))
    have FF := Lib.hid F4
    have hz4 : w.heap.size < W4.heap.size := T4.lt
    clear HP hfly hrow s8 F4 s7 F2 z2 g4 T4 q0 q1 q2 q3 c2 c3 f2 f3 lb lt
    go_upto_region 6 with (go_at_call 28; refine HS.out.mono ?_; rintro e w5 ⟨gv, rfl, hP5, hF5, hO5⟩)
    have H5 := Lib.hid hP5
    have F6 := Lib.hid ((FF.out.beyond hF5 (fun x hx => .inr (by rw [show x = w.heap.size from hx]; exact Nat.le_refl _))))
    have O5 := Lib.hid (hO5.baseP (Nat.le_of_lt hz4))
    have hgv : ∀ k, gv.ownBlock = some k → k ≠ w.heap.size := fun k e q => by have := (hO5.lt k e).1; omega
    obtain ⟨_, v5, hv5⟩ := hP5.fly _ _ rfl
    have c3 := hP5.c3
    have lt := hP5.lt
    have f3 := hP5.f3
    have f4 := hP5.f4
    have c4 := hP5.c4
    have s6 := hv5.cmd.c1
    have lx := hv5.cmd.lt
    unfold flyV at c3
    simp only [Nat.zero_add] at c3 s6
    have HGV := Lib.hid hgv
    clear hP5 hF5 hO5 hv5 HS hgv
    by_cases hw0 : q.wait = 0
    · rw [hw0] at s6
      have e1 : IntKind.i64.wrap ((dn : Int) + 1) = (dn : Int) + 1 := IntWalk.i64_in _ (by omega)
      go_wp2_with fail
      refine bodyPost_ret (by simp [results, Try.results26, go_sem]; try rfl) rfl ?_
      have sA := (H5.out.seven.put3 (.pointer none)).put4 (.int .i64 ((dn : Int) + 1))
      have FA := (Far.one w5 ⟨g, 3, none⟩ (.pointer none)).setCell (p := ⟨g, 4, none⟩) rfl (.int .i64 ((dn : Int) + 1))
      have hO := O5.out.far FA (fun k e q => by have := (O5.out.lt k e).1; have := HH.out.lt; have : k = g := q; omega)
      exact ⟨gv, Lq, rfl, F6.out.trans FA, hO, fun _ => H5.out.turn FA (fun x hx e => HKg.out x e hx) (by rw [show ((dn + 1 : Nat) : Int) = (dn : Int) + 1 by omega]; exact sA) (fun x r e => by cases e) ⟨by omega, H5.out.kd.2⟩ H5.out.kn, fun e => absurd hw0 e⟩
    · have hw1 : ¬ (q.wait : Int) = 0 := by omega
      go_wp2_with fail
      refine bodyPost_ret (by simp [results, Try.results26, go_sem]; try rfl) rfl ?_
      exact ⟨gv, Lq, rfl, F6.out, O5.out, fun e => absurd e hw0, fun _ => ⟨w.heap.size, Nat.le_refl _, HGV.out, H5.out⟩⟩
-- NEXT]
end
/- The program's dialogue: a tick. -/
def ownSet (g : Nat) (fl : Option (Nat × DRow)) : Nat → Prop := fun b => b = g ∨ ∃ r, fl = some (b, r)
theorem ownSet_none {g : Nat} (b : Nat) (h : ownSet g none b) : b = g := by
  rcases h with q | ⟨r, q⟩
  · exact q
  · cases q
def TickT (K : Nat → Prop) (g : Nat) (F : Nat → Prop) (d : Dlg) (y : Option (List Nat)) (w : World) (e : Ending) (w' : World) : Prop :=
  ∃ F' fv, e = .returned (.tuple #[fv, .bool y.isSome]) ∧ PrgR K w' (.pointer (some ⟨g, 0, none⟩)) F' d ∧ Far F w w' ∧ (∀ b, F' b → F b ∨ w.heap.size ≤ b) ∧ Own 0 5 .u8 w' fv (y.getD []) ∧ ∀ b, fv.ownBlock = some b → w.heap.size ≤ b ∧ ¬ F' b
theorem TickT.behind {K : Nat → Prop} {g : Nat} {F G : Nat → Prop} {d : Dlg} {y : Option (List Nat)} {w w1 w' : World} {e : Ending} (h : TickT K g F d y w1 e w') (k : Far G w w1) (hF : ∀ b, F b → G b) : TickT K g G d y w e w' := by
  obtain ⟨F', fv, h1, h2, h3, h4, h5, h6⟩ := h
  refine ⟨F', fv, h1, h2, k.trans (h3.mono (fun b _ q => hF b q)), fun b q => ?_, h5, fun b q => ⟨Nat.le_trans k.size (h6 b q).1, (h6 b q).2⟩⟩
  rcases h4 b q with q | q
  · exact .inl (hF b q)
  · exact .inr (Nat.le_trans k.size q)
theorem next_R {K : Nat → Prop} {g : Nat} {L : Value} {E W : List DRow} {N tmo : Int} {tries : Nat} {w w' : World} {e : Ending} (he : ∀ r ∈ E, 2 ≤ r.st) (hw : Fresh W)
    (h : NextT K g L (W.map DRow.c) (doneOf E) (lostOf E) N tmo tries w e w') (H : PrgAt K w g L none (W.map DRow.c) (doneOf E) (lostOf E) N tmo tries) :
    TickT K g (fun b => b = g) ⟨E ++ (sendL N W).1, tmo, tries, N, true⟩ (sendL N W).2 w e w' := by
  cases W with
  | nil =>
    obtain ⟨rfl, hg⟩ := h
    exact ⟨ownSet g none, _, rfl, ⟨g, L, none, E, [], rfl, fun b => Iff.rfl, ⟨by simp [sendL], he, fun r e => (by cases e), hw⟩, H.grew hg⟩, Far.of_grew hg, fun b q => .inl (ownSet_none b q), Own.nil _ _ _ _, fun b e => by simp [Value.ownBlock] at e⟩
  | cons q W' =>
    obtain ⟨fv, L', rfl, hF, hO, h0, h1⟩ := h
    rw [send_new hw]
    have hg := H.lt
    by_cases hq : q.c.wait = 0
    · obtain ⟨hp, c1, c2⟩ := Parts.sent_done he hw N hq
      refine ⟨ownSet g none, fv, rfl, ⟨g, L', none, E ++ [sentOf N q], W', rfl, fun b => Iff.rfl, hp, ?_⟩, hF, fun b q => .inl (ownSet_none b q), hO.baseP (Nat.zero_le _), fun b e => ⟨(hO.lt b e).1, fun q => ?_⟩⟩
      · rw [c1, c2]; exact h0 hq
      · rcases q with q | ⟨r, q⟩
        · have := (hO.lt b e).1; omega
        · cases q
    · obtain ⟨hs, hp⟩ := Parts.sent_fly he hw N hq
      obtain ⟨x, hx, hb, hP⟩ := h1 hq
      refine ⟨ownSet g (some (x, ⟨q.c, 1, N, 1⟩)), fv, rfl, ⟨g, L', some (x, ⟨q.c, 1, N, 1⟩), E, W', rfl, fun b => Iff.rfl, hp, hP⟩, hF, fun b q => ?_, hO.baseP (Nat.zero_le _), fun b e => ⟨(hO.lt b e).1, fun q => ?_⟩⟩
      · rcases q with q | ⟨r, q⟩
        · exact .inl q
        · cases q; exact .inr hx
      · rcases q with q | ⟨r, q⟩
        · have := (hO.lt b e).1; omega
        · cases q; exact hb _ e rfl
theorem PrgAt.clocked {K : Nat → Prop} {w : World} {g : Nat} {L : Value} {fl : Option (Nat × DRow)} {W : List Cmd} {dn ls : Nat} {now tmo : Int} {tries : Nat} (h : PrgAt K w g L fl W dn ls now tmo tries) (N : Int) (hN : -9223372036854775808 ≤ N ∧ N ≤ 9223372036854775807) :
    PrgAt K (w.setCell ⟨g, 6, none⟩ (.int .i64 N)) g L fl W dn ls N tmo tries ∧ Far (fun b => b = g) w (w.setCell ⟨g, 6, none⟩ (.int .i64 N)) := by
  have F := Far.one w ⟨g, 6, none⟩ (.int .i64 N)
  have hK : ∀ b, K b → ¬ b = g := fun b hb e => h.ng (e ▸ hb)
  exact ⟨h.turn F (fun b hb e => hK b e hb) (h.seven.put6 _) (fun x r e => by obtain ⟨n, v, hv⟩ := h.fly x r e; exact ⟨n, v, hv.far F n hK⟩) h.kd hN, F⟩
theorem PrgAt.lost {K : Nat → Prop} {w : World} {g : Nat} {L : Value} {fl : Option (Nat × DRow)} {W : List Cmd} {dn ls : Nat} {now tmo : Int} {tries : Nat} (h : PrgAt K w g L fl W dn ls now tmo tries) (hl : ls < 50) :
    PrgAt K ((w.setCell ⟨g, 3, none⟩ (.pointer none)).setCell ⟨g, 5, none⟩ (.int .i64 ((ls : Int) + 1))) g L none W dn (ls + 1) now tmo tries ∧ Far (fun b => b = g) w ((w.setCell ⟨g, 3, none⟩ (.pointer none)).setCell ⟨g, 5, none⟩ (.int .i64 ((ls : Int) + 1))) := by
  have F := (Far.one w ⟨g, 3, none⟩ (.pointer none)).setCell (p := ⟨g, 5, none⟩) rfl (.int .i64 ((ls : Int) + 1))
  have hK : ∀ b, K b → ¬ b = g := fun b hb e => h.ng (e ▸ hb)
  exact ⟨h.turn F (fun b hb e => hK b e hb) (by rw [show ((ls + 1 : Nat) : Int) = (ls : Int) + 1 by omega]; exact (h.seven.put3 (.pointer none)).put5 _) (fun x r e => by cases e) ⟨h.kd.1, by omega⟩ h.kn, F⟩
-- [TICK
set_option maxRecDepth 100000 in
set_option maxHeartbeats 8000000 in
theorem prg_Tick (K : Nat → Prop) (w : World) (v : Value) (F : Nat → Prop) (d : Dlg) (t : Int) (hR : PrgR K w v F d) (hok : DlgOk d) (ht : -9223372036854775808 ≤ t ∧ t ≤ 9223372036854775807) :
    Calls Try.prog 10 #[v, .int .i64 t] w fun e w' => ∃ F' fv, e = .returned (.tuple #[fv, .bool (d.tick t).2.isSome]) ∧ PrgR K w' v F' (d.tick t).1 ∧ Far F w w' ∧ (∀ b, F' b → F b ∨ w.heap.size ≤ b) ∧ Own 0 5 .u8 w' fv ((d.tick t).2.getD []) ∧ ∀ b, fv.ownBlock = some b → w.heap.size ≤ b ∧ ¬ F' b := by
  obtain ⟨g, L, fl, E, W, rfl, hF, hp, H⟩ := hR
  show Calls _ _ _ _ (TickT K g F (d.tick t).1 (d.tick t).2 w)
  have hkl := hok.kl
  have hEl : E.length + W.length ≤ 16 := by rw [hp.eq] at hkl; simp only [List.length_append] at hkl; omega
  have hdE := done_le E
  have hlE := lost_le E
  have hFg : ∀ b, b = g → F b := fun b e => (hF b).2 (.inl e)
  obtain ⟨N, hN⟩ : ∃ N, d.at t = N := ⟨_, rfl⟩
  have hNb : -9223372036854775808 ≤ N ∧ N ≤ 9223372036854775807 := by
    rw [← hN]
    unfold Dlg.at
    split
    · exact ht
    · exact hok.kn
  have hS := hok.at_ t
  obtain ⟨m, hm⟩ : ∃ m, (if d.came then d.now else -9223372036854775808) = m := ⟨_, rfl⟩
  have hmx : (if m < t then t else m) = N := by
    rw [← hm, ← hN]
    unfold Dlg.at
    cases hc : d.came with
    | false => simp; omega
    | true => simp
  rw [hN] at hS
  rw [hm] at H
  have hTK : d.tick t = (⟨(tickL N d.tmo d.tries d.rows).1, d.tmo, d.tries, N, true⟩, (tickL N d.tmo d.tries d.rows).2) := by unfold Dlg.tick; rw [hN]
  rw [hTK]
  obtain ⟨HC, F1⟩ := H.clocked N hNb
  have HM := Lib.hid (prg_isMade w g d.tmo H.lt H.c0 (by have := H.kt; omega))
  have lt := H.lt
  have c6 := H.c6
  have f6 := H.f6
  have HMX := Lib.hid hmx
  have HT := Lib.hid ht
  clear hTK hok hmx hm hN
  go_enter Try.func10, Try.ntmps10
  go_upto_region 3 with (go_at_call 25; refine HM.out.mono ?_; rintro e w1 ⟨rfl, hw1⟩; subst hw1)
  go_upto_region 4 with fail
  rw [HMX.out]
  generalize w.setCell ⟨g, 6, none⟩ (.int .i64 N) = w1 at HC F1 ⊢
  have F1' := Lib.hid F1
  have HH := Lib.hid HC
  clear lt c6 f6 H HM F1 HMX
  have lt := HC.lt
  have c3 := HC.c3
  unfold flyV at c3
  have FX := Lib.hid (F1'.out.mono (G := F) (fun k _ q => hFg k q))
  cases fl with
  | none =>
    have htk := Lib.hid (hp.tick_none N d.tmo d.tries)
    simp only at c3
    have hend := hp.ends
    have hnew := hp.new
    have HN := Lib.hid (prg_sendNext w1 HC (by omega))
    clear HC hS hp
    go_upto_region 5 with fail
    go_wp2_with (go_at_call 26; refine HN.out.mono ?_; intro e w2 h2; have hR := (next_R hend hnew h2 HH.out).behind FX.out hFg; obtain ⟨F', fv, rfl, h1⟩ := hR)
    refine bodyPost_ret (by simp [results, Try.results10, go_sem]; try rfl) rfl ?_
    rw [htk.out]
    exact ⟨F', fv, rfl, h1⟩
  | some xr =>
    obtain ⟨x, r⟩ := xr
    simp only at c3
    have hend := hp.ends
    have hnew := hp.new
    have hr1 := (hp.fly r rfl).1
    rw [hp.eq] at hS
    obtain ⟨hmt, hsn⟩ := Parts.sound_fly hS hend hr1
    have HL := Lib.hid (prg_isLate HC hsn)
    obtain ⟨hxg, v6, hv6⟩ := HC.fly x r rfl
    have d4 := hv6.c4
    have lx := hv6.cmd.lt
    have kr := HC.kr
    have c1 := HC.c1
    have HP := Lib.hid hp
    have hFx : F x := (hF x).2 (.inr ⟨r, rfl⟩)
    clear HC hS hv6 hp
    by_cases hy : N - r.sent < d.tmo
    · have htk := Lib.hid (HP.out.tick_young N d.tmo d.tries hy)
      have hb : decide (d.tmo ≤ N - r.sent) = false := decide_eq_false (by omega)
      rw [hb] at HL
      go_wp2_with (go_at_call 27; refine HL.out.mono ?_; rintro e w2 ⟨rfl, g2⟩)
      refine bodyPost_ret (by simp [results, Try.results10, go_sem]; try rfl) rfl ?_
      rw [htk.out]
      exact ⟨F, _, rfl, ⟨g, L, some (x, r), E, W, rfl, hF, HP.out, HH.out.grew g2⟩, FX.out.trans (Far.of_grew g2), fun b q => .inl q, Own.nil _ _ _ _, fun b e => by simp [Value.ownBlock] at e⟩
    · have hb : decide (d.tmo ≤ N - r.sent) = true := decide_eq_true (by omega)
      rw [hb] at HL
      have HKK := Lib.hid (fun w' (G : Grew w1 w') => (⟨Nat.lt_of_lt_of_le lt G.size, Nat.lt_of_lt_of_le lx G.size, (G.cell (p := ⟨g, 3, none⟩) lt).trans c3, (G.cell (p := ⟨g, 1, none⟩) lt).trans c1, (G.cell (p := ⟨x, 4, none⟩) lx).trans d4⟩ : g < w'.heap.size ∧ x < w'.heap.size ∧ w'.cell? ⟨g, 3, none⟩ = some (.pointer (some ⟨x, 0, none⟩)) ∧ w'.cell? ⟨g, 1, none⟩ = some (.int .i64 (d.tries : Nat)) ∧ w'.cell? ⟨x, 4, none⟩ = some (.int .i64 (r.many : Nat))))
      by_cases hm : r.many < d.tries
      · have htk := Lib.hid (HP.out.tick_again N d.tmo d.tries hy hm)
        have hmi : (r.many : Int) < d.tries := by omega
        clear d4 c1
        go_upto_region 8 with (go_at_call 27; refine HL.out.mono ?_; rintro e w2 ⟨rfl, g2⟩; clear c3; obtain ⟨l1, l2, c3, c1, d4⟩ := HKK.out _ g2)
        go_quiet (fail)
        have g3 := g2.drewN nq
        generalize w2.drewN nq = w3 at g3 ⊢
        have HS := Lib.hid (prg_send w3 (HH.out.grew g3) (by omega))
        clear c3 c1 d4
        go_wp2_with (go_at_call 28; refine HS.out.mono ?_; rintro e w4 ⟨fv, rfl, hP4, hF4, hO4⟩)
        refine bodyPost_ret (by simp [results, Try.results10, go_sem]; try rfl) rfl ?_
        rw [htk.out]
        obtain ⟨es, hpp⟩ := HP.out.again_fly N
        refine ⟨F, fv, rfl, ⟨g, L, some (x, ⟨r.c, 1, N, r.many + 1⟩), E, W, rfl, fun b => ?_, hpp, by rw [hr1] at hP4; exact hP4⟩, (FX.out.trans (Far.of_grew g3)).trans (hF4.mono (fun b _ q => by rw [show b = x from q]; exact hFx)), fun b q => .inl q, hO4.baseP (Nat.zero_le _), fun b e => ?_⟩
        · rw [hF]
          constructor
          · rintro (q | ⟨r', q⟩)
            · exact .inl q
            · cases q; exact .inr ⟨_, rfl⟩
          · rintro (q | ⟨r', q⟩)
            · exact .inl q
            · cases q; exact .inr ⟨_, rfl⟩
        · have h4 := (hO4.lt b e).1
          have := F1'.out.size
          have := g3.size
          refine ⟨by omega, fun q => ?_⟩
          rcases (hF b).1 q with q | ⟨r', q⟩
          · omega
          · cases q; omega
      · have htk := Lib.hid (HP.out.tick_lost N d.tmo d.tries hy hm)
        have hmi : ¬ (r.many : Int) < d.tries := by omega
        clear d4 c1
        go_upto_region 8 with (go_at_call 27; refine HL.out.mono ?_; rintro e w2 ⟨rfl, g2⟩; clear c3; obtain ⟨l1, l2, c3, c1, d4⟩ := HKK.out _ g2)
        go_quiet (fail)
        have g3 := g2.drewN nq
        generalize w2.drewN nq = w3 at g3 ⊢
        have H3 := HH.out.grew g3
        have u3 := H3.c3
        have v3 := H3.f3
        have u5 := H3.c5
        have v5 := H3.f5
        have l3 := H3.lt
        unfold flyV at u3
        simp only at u3
        have e1 : IntKind.i64.wrap ((lostOf E : Int) + 1) = (lostOf E : Int) + 1 := IntWalk.i64_in _ (by omega)
        obtain ⟨H5, F5⟩ := H3.lost (by omega)
        clear c3 c1 d4 H3
        go_upto_region 12 with fail
        generalize (w3.setCell ⟨g, 3, none⟩ (.pointer none)).setCell ⟨g, 5, none⟩ (.int .i64 ((lostOf E : Int) + 1)) = w5 at H5 F5 ⊢
        obtain ⟨dn2, ls2⟩ := turned_lost E r
        have H6 : PrgAt K w5 g L none (W.map DRow.c) (doneOf (E ++ [turnedOf 3 r])) (lostOf (E ++ [turnedOf 3 r])) N d.tmo d.tries := by rw [dn2, ls2]; exact H5
        have HN := Lib.hid (prg_sendNext w5 H6 (by rw [dn2]; omega))
        have FF := Lib.hid (((FX.out.trans (Far.of_grew g3)).trans (F5.mono (fun b _ q => hFg b q))))
        have HE := Lib.hid H6
        clear u3 v3 u5 v5 l3 H5 H6 F5 g3
        go_wp2_with (go_at_call 26; refine HN.out.mono ?_; intro e w6 h6; have hR := (next_R (ends_more hend (show 2 ≤ 3 by decide)) hnew h6 HE.out).behind FF.out hFg; obtain ⟨F', fv, rfl, h1⟩ := hR)
        refine bodyPost_ret (by simp [results, Try.results10, go_sem]; try rfl) rfl ?_
        rw [htk.out]
        exact ⟨F', fv, rfl, h1⟩
-- TICK]
/- The program's dialogue: a copy; calls of one that is not there. -/
theorem PrgAt.other {K : Nat → Prop} {w w' : World} {g p : Nat} {L : Value} {fl fl' : Option (Nat × DRow)} {W : List Cmd} {dn ls : Nat} {now tmo : Int} {tries : Nat} (h : PrgAt K w g L fl W dn ls now tmo tries) (k : Grew w w') (s : SevenAt w' p (.int .i64 tmo) (.int .i64 (tries : Nat)) L (flyV fl') (.int .i64 (dn : Nat)) (.int .i64 (ls : Nat)) (.int .i64 now))
    (hp : ¬ K p) (hf : ∀ x r, fl' = some (x, r) → x ≠ p ∧ ∃ v, FlyIn K w' x r v) : PrgAt K w' p L fl' W dn ls now tmo tries :=
  ⟨s.lt, s.c0, s.c1, s.c2, s.c3, s.c4, s.c5, s.c6, s.f2, s.f3, s.f4, s.f5, s.f6, (h.grew k).list, h.lb, h.ll, h.may, hf, hp, (h.grew k).kb, h.kd, h.kn, h.kt, h.kr⟩
-- [COPY
set_option maxRecDepth 100000 in
set_option maxHeartbeats 4000000 in
theorem prg_Copy (K : Nat → Prop) (w : World) (g : Nat) (L : Value) (fl : Option (Nat × DRow)) (W : List Cmd) (dn ls : Nat) (now tmo : Int) (tries : Nat) (h : PrgAt K w g L fl W dn ls now tmo tries) :
    Calls Try.prog 14 #[.pointer (some ⟨g, 0, none⟩)] w fun e w' => ∃ p fl', e = .returned (.pointer (some ⟨p, 0, none⟩)) ∧ w.heap.size ≤ p ∧ fl'.map Prod.snd = fl.map Prod.snd ∧ (∀ x r, fl' = some (x, r) → w.heap.size ≤ x) ∧ PrgAt K w' p L fl' W dn ls now tmo tries ∧ Grew w w' := by
  have HM := Lib.hid (prg_isMade w g tmo h.lt h.c0 (by have := h.kt; omega))
  have HH := Lib.hid h
  have hkb := fun b hb => Nat.not_le_of_lt (h.kb b hb)
  obtain ⟨lt, c0, c1, c2, c3, c4, c5, c6, _⟩ := h
  obtain ⟨A, c, rfl, hc, _⟩ := HH.out.list
  cases fl with
  | none =>
    unfold flyV at c3
    simp only at c3
    go_enter Try.func14, Try.ntmps14
    go_upto_region 4 with (go_at_call 25; refine HM.out.mono ?_; rintro e w1 ⟨rfl, hw1⟩; subst hw1)
    obtain ⟨V, hV, gV, TV⟩ := seven_new w (.int .i64 tmo) (.int .i64 (tries : Nat)) (.slice A W.length c) (.pointer none) (.int .i64 (dn : Nat)) (.int .i64 (ls : Nat)) (.int .i64 now) 54
    rw [hV]
    clear hV
    have u3 := (gV.cell (p := ⟨g, 3, none⟩) lt).trans c3
    have lt1 := Nat.lt_of_lt_of_le lt gV.size
    clear c0 c1 c2 c3 c4 c5 c6
    go_wp2_with fail
    go_ret
    exact ⟨w.heap.size, none, rfl, Nat.le_refl _, rfl, fun x r e => (by cases e), HH.out.other gV TV (fun e => hkb _ e (Nat.le_refl _)) (fun x r e => by cases e), gV⟩
  | some xr =>
    obtain ⟨x, r⟩ := xr
    obtain ⟨hxg, v, hv⟩ := HH.out.fly x r rfl
    have HV := Lib.hid hv
    obtain ⟨lx, d0, d1, d2, d3, d4, d5, _⟩ := hv.six
    obtain ⟨Av, cv, rfl, hcv, _⟩ := hv.cmd.row
    unfold flyV at c3
    simp only at c3
    clear hv
    go_enter Try.func14, Try.ntmps14
    go_upto_region 4 with (go_at_call 25; refine HM.out.mono ?_; rintro e w1 ⟨rfl, hw1⟩; subst hw1)
    obtain ⟨V, hV, gV, TV⟩ := seven_new w (.int .i64 tmo) (.int .i64 (tries : Nat)) (.slice A W.length c) (.pointer (some ⟨x, 0, none⟩)) (.int .i64 (dn : Nat)) (.int .i64 (ls : Nat)) (.int .i64 now) 54
    rw [hV]
    clear hV
    have u3 := (gV.cell (p := ⟨g, 3, none⟩) lt).trans c3
    have lt1 := Nat.lt_of_lt_of_le lt gV.size
    have lx1 := Nat.lt_of_lt_of_le lx gV.size
    have y0 := (gV.cell (p := ⟨x, 0, none⟩) lx).trans d0
    have y1 := (gV.cell (p := ⟨x, 1, none⟩) lx).trans d1
    have y2 := (gV.cell (p := ⟨x, 2, none⟩) lx).trans d2
    have y3 := (gV.cell (p := ⟨x, 3, none⟩) lx).trans d3
    have y4 := (gV.cell (p := ⟨x, 4, none⟩) lx).trans d4
    have y5 := (gV.cell (p := ⟨x, 5, none⟩) lx).trans d5
    clear c0 c1 c2 c3 c4 c5 c6 d0 d1 d2 d3 d4 d5
    go_upto_region 6 with fail
    obtain ⟨U, hU, gU, TU⟩ := six_new V (.slice Av r.c.b.length cv) (.int .u8 (r.c.wait : Nat)) (.int .u8 (r.c.cls : Nat)) (.int .u8 (r.c.id : Nat)) (.int .i64 (r.many : Nat)) (.int .i64 r.sent) 62
    rw [hU]
    clear hU u3 y0 y1 y2 y3 y4 y5
    have T2 := TV.far (Far.of_grew (F := fun _ => False) gU) (fun q => q)
    have z3 := T2.c3
    have w3 := T2.f3
    have l2 := T2.lt
    have hne : w.heap.size < V.heap.size := TV.lt
    go_wp2_with fail
    go_ret
    have T3 := T2.put3 (.pointer (some ⟨V.heap.size, 0, none⟩))
    have FU := Far.one U ⟨w.heap.size, 3, none⟩ (.pointer (some ⟨V.heap.size, 0, none⟩))
    have gA : Grew w (U.setCell ⟨w.heap.size, 3, none⟩ (.pointer (some ⟨V.heap.size, 0, none⟩))) := FU.grew (gV.trans gU) (fun k q => by rw [show k = w.heap.size from q]; exact Nat.le_refl _)
    refine ⟨w.heap.size, some (V.heap.size, r), rfl, Nat.le_refl _, rfl, fun x r e => (by simp only [Option.some.injEq, Prod.mk.injEq] at e; omega), HH.out.other gA T3 (fun e => hkb _ e (Nat.le_refl _)) (fun y q e => ?_), gA⟩
    cases e
    refine ⟨by omega, .slice Av r.c.b.length cv, .of_six (TU.far FU (fun e => by have : V.heap.size = w.heap.size := e; omega)) (HV.out.cmd.row.grew gA) ⟨HV.out.cmd.kw, HV.out.cmd.kc, HV.out.cmd.ki⟩ HV.out.km HV.out.ks HV.out.may HV.out.ob (fun e => hkb _ e (Nat.le_of_lt hne))⟩
set_option maxRecDepth 100000 in
set_option maxHeartbeats 4000000 in
theorem prg_Copy_none (w : World) : Calls Try.prog 14 #[.pointer none] w fun e w' => e = .returned (.pointer none) ∧ Grew w w' := by
  have HM := Lib.hid (prg_isMade_none w)
  go_enter Try.func14, Try.ntmps14
  go_wp2_with (go_at_call 25; refine HM.out.mono ?_; rintro e w1 ⟨rfl, hw1⟩; subst hw1)
  go_ret
  exact ⟨rfl, Grew.refl _⟩
-- COPY]
-- [NONE
set_option maxRecDepth 100000 in
set_option maxHeartbeats 4000000 in
theorem prg_Tick_none (w : World) (t : Int) (ht : -9223372036854775808 ≤ t ∧ t ≤ 9223372036854775807) : Calls Try.prog 10 #[.pointer none, .int .i64 t] w fun e w' => ∃ A c, e = .returned (.tuple #[.slice A 0 c, .bool false]) ∧ Grew w w' := by
  have HM := Lib.hid (prg_isMade_none w)
  go_enter Try.func10, Try.ntmps10
  go_wp2_with (go_at_call 25; refine HM.out.mono ?_; rintro e w1 ⟨rfl, hw1⟩; subst hw1)
  refine bodyPost_ret (by simp [results, Try.results10, go_sem]; try rfl) rfl ?_
  exact ⟨none, 0, rfl, Grew.refl _⟩
set_option maxRecDepth 100000 in
set_option maxHeartbeats 4000000 in
theorem prg_Frame_none (w : World) : Calls Try.prog 12 #[.pointer none, .agg #[.int .u8 0, .slice none 0 0]] w fun e w' => e = .returned (.bool false) ∧ Grew w w' := by
  have HM := fun w => Lib.hid (prg_Flying_none w)
  have gA := (Grew.refl w).alloc (.cells #[.int .u8 0, .slice none 0 0] 37)
  go_enter Try.func12, Try.ntmps12
  go_wp2_with (go_at_call 18; refine (HM _).out.mono ?_; rintro e w1 ⟨rfl, hw1⟩; subst hw1)
  go_ret
  exact ⟨rfl, gA⟩
-- NONE]
end Go.Proofs.Ytcdmbnbanopioaa
