/-
  The laws of pairings: the program's pairing and the document's side by side; what comes, as a list.
-/
import Derived.Test.YtkijonnbngnliaaPapE
import Derived.Test.YtkijonnbngnliaaPapF
import Derived.Test.YtkijonnbngnliaaPaqE
import Derived.Test.YtkijonnbngnliaaPaqH
namespace Go.Proofs.Ytkijonnbngnliaa
open Go.RowKit
set_option linter.unusedVariables false

theorem win_edge (g : Pg) (c : Int) : (g.edge c).win = g.win := by
  unfold Pg.edge
  split <;> rfl
theorem win_msg (g : Pg) (m : Int) (x : Ms) : (g.msg m x).win = g.win := by
  unfold Pg.msg
  split
  · rfl
  · split <;> rfl
/-- The program's pairing behind p, the document's behind r; beside them stand the blocks S. -/
def BothS (S : List (Nat × List Value)) (w0 w : World) (p r : Nat) (win : Int) (g : Pg) (T : List Tg) : Prop :=
  ∃ q e hb L, (∀ x ∈ S, At w x.1 x.2 ∧ x.1 ≠ q ∧ x.1 ≠ e ∧ x.1 ≠ r) ∧ PaiAt w p q e hb g ∧ RefP w r win L T ∧ (r ≠ p ∧ r ≠ q ∧ r ≠ e ∧ r ≠ hb) ∧ (∀ b, L.ownBlock = some b → b ≠ q ∧ b ≠ e) ∧ (w0.heap.size ≤ q ∧ w0.heap.size ≤ e ∧ w0.heap.size ≤ r) ∧ Grew w0 w
/-- What came is within bounds. -/
theorem SimT.bounds {T : List Tg} {g : Pg} (h : SimT T g) (hk : PgOk g) : ∀ j, j < T.length → 0 ≤ (tg T j).at_ ∧ (tg T j).at_ ≤ 9223372036854775807 := fun j hj => by
  have h1 := h.at_ j hj
  have h2 := hk.kl
  omega
section
variable {S : List (Nat × List Value)} {w0 w w' : World} {p r : Nat} {win : Int} {g : Pg} {T : List Tg}
theorem BothS.ok (h : BothS S w0 w p r win g T) : PgOk g := by
  obtain ⟨q, e, hb, L, _, h1, _⟩ := h
  exact h1.pag.ok
theorem BothS.grown (h : BothS S w0 w p r win g T) : Grew w0 w := by
  obtain ⟨q, e, hb, L, _, _, _, _, _, _, h6⟩ := h
  exact h6
theorem BothS.grew (h : BothS S w0 w p r win g T) (k : Grew w w') : BothS S w0 w' p r win g T := by
  obtain ⟨q, e, hb, L, hS, h1, h2, h3, h4, h5, h6⟩ := h
  exact ⟨q, e, hb, L, fun x hx => ⟨(hS x hx).1.grew k, (hS x hx).2⟩, h1.grew k, h2.grew k, h3, h4, h5, h6.trans k⟩
/-- One block more stands beside. -/
theorem BothS.push (h : BothS S w0 w p r win g T) (vs : List Value) (U : TypeId) : BothS ((w.heap.size, vs) :: S) w0 (w.alloc (.cells vs.toArray U)) p r win g T := by
  have k : Grew w (w.alloc (.cells vs.toArray U)) := (Grew.refl w).alloc _
  obtain ⟨q, e, hb, L, hS, h1, h2, h3, h4, h5, h6⟩ := h
  refine ⟨q, e, hb, L, fun x hx => ?_, h1.grew k, h2.grew k, h3, h4, h5, h6.trans k⟩
  have l1 := h1.pag.at_.lt
  have l2 := h1.pag.log.lt
  have l3 := h2.at_.lt
  rcases List.mem_cons.1 hx with rfl | hx
  · exact ⟨At.new w vs U, by simp only; omega, by simp only; omega, by simp only; omega⟩
  · exact ⟨(hS x hx).1.grew k, (hS x hx).2⟩
theorem BothS.drop (h : BothS S w0 w p r win g T) : BothS [] w0 w p r win g T := by
  obtain ⟨q, e, hb, L, hS, h⟩ := h
  exact ⟨q, e, hb, L, fun x hx => by simp at hx, h⟩
theorem BothS.at1 {x : Nat × List Value} (h : BothS (x :: S) w0 w p r win g T) : At w x.1 x.2 := by
  obtain ⟨q, e, hb, L, hS, h⟩ := h
  exact (hS x (by simp)).1
theorem BothS.at2 {x y : Nat × List Value} (h : BothS (y :: x :: S) w0 w p r win g T) : At w x.1 x.2 := by
  obtain ⟨q, e, hb, L, hS, h⟩ := h
  exact (hS x (by simp)).1
theorem both_pEdge (h : BothS S w0 w p r win g T) (c : Int) (hm : c ≤ 9223372036854775807) :
    Calls Try.prog 8 #[.pointer (some ⟨p, 0, none⟩), .int .i64 c] w fun x w' => x = .returned (.tuple #[pdV (g.edgeP c), .bool (g.edgeP c).isSome]) ∧ BothS S w0 w' p r win (g.edge c) T := by
  obtain ⟨q, e, hb, L, hS, h1, h2, h3, h4, h5, h6⟩ := h
  refine (pai_Edge w p q e hb g c h1 hm).mono fun x w' ⟨a, b, f⟩ => ⟨a, q, e, hb, L, fun x hx => ⟨(hS x hx).1.far f (by have := hS x hx; omega), (hS x hx).2⟩, b, h2.far f (by omega) (fun b' e' q' => by have := h4 b' e'; omega), h3, h4, h5, f.grew h6 (fun k q' => by omega)⟩
theorem both_pMsg (h : BothS S w0 w p r win g T) (m : Int) (x : Ms) (hm : m ≤ 9223372036854775807) :
    Calls Try.prog 9 #[.pointer (some ⟨p, 0, none⟩), .int .i64 m, x.value] w fun y w' => y = .returned (.tuple #[pdV (g.msgP m x), .bool (g.msgP m x).isSome]) ∧ BothS S w0 w' p r win (g.msg m x) T := by
  obtain ⟨q, e, hb, L, hS, h1, h2, h3, h4, h5, h6⟩ := h
  refine (pai_Message w p q e hb g m x h1 hm).mono fun y w' ⟨hb', a, b, c, f⟩ => ⟨a, q, e, hb', L, fun x hx => ⟨(hS x hx).1.far f (by have := hS x hx; omega), (hS x hx).2⟩, b, h2.far f (by omega) (fun b' e' q' => by have := h4 b' e'; omega), ⟨h3.1, h3.2.1, h3.2.2.1, by have := h2.at_.lt; omega⟩, h4, h5, f.grew h6 (fun k q' => by omega)⟩
theorem both_doc {T' : List Tg} {o : Option Pd} {F : Nat} {args : Array Value} (h : BothS S w0 w p r win g T) (hd : ∀ L, RefP w r win L T → Calls Try.prog F args w (DocTold r win L T' o w)) :
    Calls Try.prog F args w fun y w' => y = .returned (.tuple #[pdV o, .bool o.isSome]) ∧ BothS S w0 w' p r win g T' := by
  obtain ⟨q, e, hb, L, hS, h1, h2, h3, h4, h5, h6⟩ := h
  refine (hd L h2).mono fun y w' ⟨L', a, b, c, f⟩ => ⟨a, q, e, hb, L', fun x hx => ⟨(hS x hx).1.far f (hS x hx).2.2.2, (hS x hx).2⟩, h1.far f (fun k => h3.1 k.symm) (fun k => h3.2.1 k.symm) (fun k => h3.2.2.1 k.symm) (fun k => h3.2.2.2 k.symm), b, h3, fun b' e' => ?_, h5, f.grew h6 (fun k q' => by omega)⟩
  rcases c b' e' with k | k
  · exact h4 b' k
  · have := h1.pag.at_.lt
    have := h1.pag.log.lt
    omega
theorem both_dEdge (h : BothS S w0 w p r win g T) (c : Int) (hl : T.length ≤ 100000) (hb : ∀ j, j < T.length → 0 ≤ (tg T j).at_ ∧ (tg T j).at_ ≤ 9223372036854775807) (hc : c ≤ 9223372036854775807) :
    Calls Try.prog 11 #[.pointer (some ⟨r, 0, none⟩), .int .i64 c] w fun y w' => y = .returned (.tuple #[pdV (edgeTP T win c), .bool (edgeTP T win c).isSome]) ∧ BothS S w0 w' p r win g (edgeT T win c) :=
  both_doc h (fun L k => ref17_Edge w r win c L T k hl hb hc)
theorem both_dMsg (h : BothS S w0 w p r win g T) (m : Int) (x : Ms) (hl : T.length ≤ 100000) (hb : ∀ j, j < T.length → 0 ≤ (tg T j).at_ ∧ (tg T j).at_ ≤ 9223372036854775807) (hc : m ≤ 9223372036854775807) (hw : 100000000 ≤ win ∧ win ≤ 900000000) :
    Calls Try.prog 12 #[.pointer (some ⟨r, 0, none⟩), .int .i64 m, x.value] w fun y w' => y = .returned (.tuple #[pdV (msgTP T win m x), .bool (msgTP T win m x).isSome]) ∧ BothS S w0 w' p r win g (msgT T win m x) :=
  both_doc h (fun L k => ref17_Message w r win m x L T k hl hb hc hw)
theorem both_Waits (h : BothS S w0 w p r win g T) :
    Calls Try.prog 13 #[.pointer (some ⟨p, 0, none⟩)] w fun y w' => y = .returned (.bool g.waits.isSome) ∧ w = w' := by
  obtain ⟨q, e, hb, L, _, h1, _⟩ := h
  exact pai_Waits w p q e hb g h1
theorem both_Waiting (h : BothS S w0 w p r win g T) (hl : T.length ≤ 100000) :
    Calls Try.prog 14 #[.pointer (some ⟨r, 0, none⟩)] w fun y w' => y = .returned (.int .i64 (optI (waitI T T.length))) ∧ w = w' := by
  obtain ⟨q, e, hb, L, _, h1, h2, _⟩ := h
  exact ref17_Waiting w r win L T h2 hl
/-- What waits is the same. -/
theorem SimT.waits (h : SimT T g) : (optI (waitI T T.length) < 0) = (g.waits.isSome = false) := by
  have hw := h.wait
  cases e : waitI T T.length with
  | none => rw [e] at hw; simp only at hw; rw [hw]; simp [optI]
  | some i => rw [e] at hw; simp only at hw; rw [hw]; simp [optI]
/-- A copy beside the one that it was made of, and the document's. -/
def CopyS (S : List (Nat × List Value)) (w0 w : World) (p p' r : Nat) (win : Int) (g g' : Pg) (T : List Tg) : Prop :=
  ∃ q e hb q' e' hb' L, (∀ x ∈ S, At w x.1 x.2 ∧ x.1 ≠ q ∧ x.1 ≠ e ∧ x.1 ≠ r ∧ x.1 ≠ q' ∧ x.1 ≠ e') ∧ PaiAt w p q e hb g ∧ PaiAt w p' q' e' hb' g' ∧ RefP w r win L T ∧ (r ≠ p' ∧ r ≠ q' ∧ r ≠ e' ∧ r ≠ hb' ∧ r ≠ q ∧ r ≠ e) ∧ (∀ b, L.ownBlock = some b → b ≠ q' ∧ b ≠ e' ∧ b ≠ q ∧ b ≠ e) ∧ (w0.heap.size ≤ q' ∧ w0.heap.size ≤ e' ∧ w0.heap.size ≤ r ∧ w0.heap.size ≤ q ∧ w0.heap.size ≤ e) ∧
    (p' ≠ q ∧ p' ≠ e ∧ q' ≠ q ∧ q' ≠ e ∧ e' ≠ q ∧ e' ≠ e ∧ hb' ≠ q ∧ hb' ≠ e) ∧ Grew w0 w
theorem both_Copy (h : BothS S w0 w p r win g T) :
    Calls Try.prog 7 #[.pointer (some ⟨p, 0, none⟩)] w fun y w' => ∃ p', y = .returned (.pointer (some ⟨p', 0, none⟩)) ∧ CopyS S w0 w' p p' r win g g T := by
  obtain ⟨q, e, hb, L, hS, h1, h2, h3, h4, h5, h6⟩ := h
  refine (pai_Copy w p q e hb g h1).mono fun y w' ⟨p', q', e', a, b, c, k⟩ => ⟨p', a, q, e, hb, q', e', hb, L, fun x hx => ⟨(hS x hx).1.grew k, by have := hS x hx; have := (hS x hx).1.lt; omega⟩, h1.grew k, b, h2.grew k, ?_, fun b' e'' => ?_, ?_, ?_, h6.trans k⟩
  · have := h2.at_.lt
    omega
  · have := h4 b' e''
    have := h2.lt b' e''
    omega
  · have := h6.size
    omega
  · have := h1.pag.at_.lt
    have := h1.pag.log.lt
    have := h1.pag.hq
    have := h1.pag.he
    omega
theorem copy_Edge {p' : Nat} {g' : Pg} (h : CopyS S w0 w p p' r win g g' T) (c : Int) (hm : c ≤ 9223372036854775807) :
    Calls Try.prog 8 #[.pointer (some ⟨p, 0, none⟩), .int .i64 c] w fun x w' => x = .returned (.tuple #[pdV (g.edgeP c), .bool (g.edgeP c).isSome]) ∧ CopyS S w0 w' p p' r win (g.edge c) g' T := by
  obtain ⟨q, e, hb, q', e', hb', L, hS, h1, h2, h3, h4, h5, h6, h7, h8⟩ := h
  refine (pai_Edge w p q e hb g c h1 hm).mono fun x w' ⟨a, b, f⟩ => ⟨a, q, e, hb, q', e', hb', L, fun x hx => ⟨(hS x hx).1.far f (by have := hS x hx; omega), (hS x hx).2⟩, b, h2.far f (by omega) (by omega) (by omega) (by omega), h3.far f (by omega) (fun b' e' q' => by have := h5 b' e'; omega), h4, h5, h6, h7, f.grew h8 (fun k q' => by omega)⟩
theorem copy_Msg {p' : Nat} {g' : Pg} (h : CopyS S w0 w p p' r win g g' T) (m : Int) (x : Ms) (hm : m ≤ 9223372036854775807) :
    Calls Try.prog 9 #[.pointer (some ⟨p, 0, none⟩), .int .i64 m, x.value] w fun y w' => y = .returned (.tuple #[pdV (g.msgP m x), .bool (g.msgP m x).isSome]) ∧ CopyS S w0 w' p p' r win (g.msg m x) g' T := by
  obtain ⟨q, e, hb, q', e', hb', L, hS, h1, h2, h3, h4, h5, h6, h7, h8⟩ := h
  refine (pai_Message w p q e hb g m x h1 hm).mono fun y w' ⟨hb2, a, b, _, f⟩ => ⟨a, q, e, hb2, q', e', hb', L, fun x hx => ⟨(hS x hx).1.far f (by have := hS x hx; omega), (hS x hx).2⟩, b, h2.far f (by omega) (by omega) (by omega) (by omega), h3.far f (by omega) (fun b' e' q' => by have := h5 b' e'; omega), h4, h5, h6, h7, f.grew h8 (fun k q' => by omega)⟩
theorem CopyS.grew {p' : Nat} {g' : Pg} (h : CopyS S w0 w p p' r win g g' T) (k : Grew w w') : CopyS S w0 w' p p' r win g g' T := by
  obtain ⟨q, e, hb, q', e', hb', L, hS, h1, h2, h3, h4, h5, h6, h7, h8⟩ := h
  exact ⟨q, e, hb, q', e', hb', L, fun x hx => ⟨(hS x hx).1.grew k, (hS x hx).2⟩, h1.grew k, h2.grew k, h3.grew k, h4, h5, h6, h7, h8.trans k⟩
theorem CopyS.grown {p' : Nat} {g' : Pg} (h : CopyS S w0 w p p' r win g g' T) : Grew w0 w := by
  obtain ⟨q, e, hb, q', e', hb', L, hS, h1, h2, h3, h4, h5, h6, h7, h8⟩ := h
  exact h8
theorem CopyS.at1 {p' : Nat} {g' : Pg} {x : Nat × List Value} (h : CopyS (x :: S) w0 w p p' r win g g' T) : At w x.1 x.2 := by
  obtain ⟨q, e, hb, q', e', hb', L, hS, _⟩ := h
  exact (hS x (by simp)).1
theorem copy_doc {p' : Nat} {g' : Pg} (h : CopyS S w0 w p p' r win g g' T) (hl : T.length ≤ 100000) :
    Calls Try.prog 10 #[.pointer (some ⟨r, 0, none⟩)] w fun y w' => ∃ r', y = .returned (.pointer (some ⟨r', 0, none⟩)) ∧ BothS S w0 w' p' r' win g' T := by
  obtain ⟨q, e, hb, q', e', hb', L, hS, h1, h2, h3, h4, h5, h6, h7, h8⟩ := h
  refine (ref17_Copy w r win L T h3 hl).mono fun y w' ⟨r', L', a, b, c, d, k⟩ => ⟨r', a, q', e', hb', L', fun x hx => ⟨(hS x hx).1.grew k, by have := hS x hx; have := (hS x hx).1.lt; omega⟩, h2.grew k, b, ?_, fun b' e'' => ?_, ?_, h8.trans k⟩
  · have := h2.top.lt
    have := h2.pag.at_.lt
    have := h2.pag.log.lt
    have := h2.pag.hl
    omega
  · have := d b' e''
    have := h2.pag.at_.lt
    have := h2.pag.log.lt
    omega
  · have := h8.size
    omega
end
/- What comes, as a list. -/
structure Po where
  edge : Bool
  copy : Bool
  at_ : Int
  msg : Ms
def noPo : Po := ⟨false, false, 0, noMs⟩
def po (l : List Po) (i : Nat) : Po := l.getD i noPo
def poC (o : Po) : List Value := [.bool o.edge, .bool o.copy, .int .i64 o.at_, .int .u8 o.msg.kind, .bool o.msg.utc, .int .i64 o.msg.sec, .bool o.msg.leap, .int .i64 o.msg.cycle, .bool o.msg.next]
/-- A slice value that reads as the list l. -/
def PosAt (w : World) (v : Value) (l : List Po) : Prop :=
  ∃ (A : Option Addr) (c : Nat), v = .slice A l.length c ∧ l.length ≤ c ∧
    (0 < l.length → ∃ b o, A = some ⟨b, o, none⟩ ∧ b < w.heap.size ∧ ∀ i, i < l.length → ∀ k u, (poC (po l i))[k]? = some u → w.cell? ⟨b, o + i * 9 + k, none⟩ = some u)
theorem PosAt.form {w : World} {v : Value} {l : List Po} (h : PosAt w v l) : ∃ A c, v = .slice A l.length c ∧ l.length ≤ c := by
  obtain ⟨A, c, e, hc, _⟩ := h
  exact ⟨A, c, e, hc⟩
theorem PosAt.at_ {w w' : World} {A : Option Addr} {n c : Nat} {l : List Po} (h : PosAt w (.slice A n c) l) (k : Grew w w') {i : Nat} (hi : i < l.length) :
    ∃ b o, A = some ⟨b, o, none⟩ ∧ b < w'.heap.size ∧ ∀ k u, (poC (po l i))[k]? = some u → w'.cell? ⟨b, o + i * 9 + k, none⟩ = some u := by
  obtain ⟨A', c', e, _, hr⟩ := h
  obtain ⟨b, o, e2, hb, hcl⟩ := hr (by omega)
  simp only [Value.slice.injEq] at e
  exact ⟨b, o, e.1.trans e2, Nat.lt_of_lt_of_le hb k.size, fun j u hu => (k.cell (p := ⟨b, o + i * 9 + j, none⟩) hb).trans (hcl i hi j u hu)⟩
def PosOk (l : List Po) : Prop := ∀ i, -9223372036854775808 ≤ (po l i).at_ ∧ (po l i).at_ ≤ 9223372036854775807
end Go.Proofs.Ytkijonnbngnliaa
