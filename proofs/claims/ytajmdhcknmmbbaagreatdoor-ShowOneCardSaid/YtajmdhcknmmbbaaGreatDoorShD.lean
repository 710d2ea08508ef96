/-
  Nodes that were read, as they lie in memory ('DRep'). Walks: the reader of documents' texts: nodes, node.
  Conditions: the reader lies as 'RD' says; its text has 1073741824 bytes at most; the library's tables hold what the program's text lays in them.
-/
import Derived.Test.YtajmdhcknmmbbaaGreatDoorShK
namespace Go.Proofs.YtajmdhcknmmbbaaGreatDoor.Sh
set_option linter.unusedVariables false
set_option linter.unusedSimpArgs false
open Go.Proofs.YtajmdhcknmmbbaaGreatDoor Go.ChangeShapes Go.WideShapes Go.RowKit Go.Deep

/-- A slice whose cells lie ahead in one block. -/
def Sl (W : World) (ok : Nat → Prop) (sz n : Nat) (xs : List Value) (v : Value) : Prop :=
  ∃ a c, v = .slice a n c ∧ n ≤ c ∧ c ≤ maxLen ∧ xs.length = n * sz ∧ ((a = none ∧ n = 0) ∨ ∃ g, a = some ⟨g, 0, none⟩ ∧ ok g ∧ g < W.heap.size ∧ ∀ j u, xs[j]? = some u → W.cell? ⟨g, j, none⟩ = some u)
theorem Sl.keep {W W' : World} {ok ok' : Nat → Prop} {sz n : Nat} {xs : List Value} {v : Value} (h : Sl W ok sz n xs v) (hs : W.heap.size ≤ W'.heap.size) (ho : ∀ b, b < W.heap.size → ok b → ok' b ∧ W'.heap[b]? = W.heap[b]?) : Sl W' ok' sz n xs v := by
  obtain ⟨a, c, e, h1, h2, h3, h4⟩ := h
  refine ⟨a, c, e, h1, h2, h3, h4.imp id ?_⟩
  rintro ⟨g, e1, hg, hlt, hc⟩
  obtain ⟨h5, h6⟩ := ho g hlt hg
  exact ⟨g, e1, h5, by omega, fun j u hu => by rw [World.cell?_of_block (w := W) h6]; exact hc j u hu⟩
theorem Sl.of_own {W : World} {B sz n : Nat} {ty : TypeId} {xs : List Value} {v : Value} (h : W.ownsRow B ty sz v n xs) : Sl W (fun b => B ≤ b ∧ v.ownBlock = some b) sz n xs v := by
  have hl := h.1
  obtain ⟨a, c, e, h1, h2⟩ := own_slice h
  refine ⟨a, c, e, h1, h2, hl, ?_⟩
  rcases h.2 with ⟨hv, h0⟩ | ⟨g, cap, cur, hv, hb, hg, h3, h4, h5, h6⟩
  · rw [e] at hv; injection hv with e1; exact .inl ⟨e1, h0⟩
  · rw [e] at hv; injection hv with e1
    refine .inr ⟨g, e1, ⟨hb, by rw [e, e1]; rfl⟩, tr_lt_of_block hg, fun j u hu => ?_⟩
    have := h.cells (g := g) (by rw [e, e1]; rfl) j u hu
    rwa [add_plain, Nat.zero_add] at this

/-- NODES AS THEY LIE IN MEMORY: their cells, and what lies behind these. -/
def DRep (W : World) (ok : Nat → Prop) : D → List (List Value) → Prop
  | .nil, vss => vss = []
  | .txt s m, vss => ∃ (a3 : Option Addr) (c3 : Nat) (a4 : Option Addr) (c4 : Nat) (t : List (List Value)), vss = [.int .i64 0, .string ⟨#[]⟩, .string ⟨s.toArray⟩, .slice a3 0 c3, .slice a4 0 c4] :: t ∧ (c3 ≤ maxLen ∧ c4 ≤ maxLen) ∧ DRep W ok m t
  | .host tag al k m, vss => ∃ va vk ks t, vss = [.int .i64 0, .string ⟨tag.toArray⟩, .string ⟨#[]⟩, va, vk] :: t ∧ Sl W ok 9 al.length (aCs al) va ∧ Sl W ok 5 ks.length ks.flatten vk ∧ DRep W ok k ks ∧ DRep W ok m t
theorem DRep.keep {W W' : World} {ok ok' : Nat → Prop} (hs : W.heap.size ≤ W'.heap.size) (ho : ∀ b, b < W.heap.size → ok b → ok' b ∧ W'.heap[b]? = W.heap[b]?) : ∀ {d : D} {vss : List (List Value)}, DRep W ok d vss → DRep W' ok' d vss := by
  intro d
  induction d with
  | nil => exact fun h => h
  | txt s m ih =>
    rintro vss ⟨a3, c3, a4, c4, t, e, hc, h⟩
    exact ⟨a3, c3, a4, c4, t, e, hc, ih h⟩
  | host tag al k m ihk ihm =>
    rintro vss ⟨va, vk, ks, t, e, h1, h2, h3, h4⟩
    exact ⟨va, vk, ks, t, e, h1.keep hs ho, h2.keep hs ho, ihk h3, ihm h4⟩
theorem DRep.app {W : World} {ok : Nat → Prop} : ∀ {d e : D} {vss uss : List (List Value)}, DRep W ok d vss → DRep W ok e uss → DRep W ok (d.app e) (vss ++ uss) := by
  intro d
  induction d with
  | nil => intro e vss uss h g; rw [show vss = [] from h]; exact g
  | txt s m ih =>
    rintro e vss uss ⟨a3, c3, a4, c4, t, rfl, hc, h⟩ g
    exact ⟨a3, c3, a4, c4, t ++ uss, rfl, hc, ih h g⟩
  | host tag al k m ihk ihm =>
    rintro e vss uss ⟨va, vk, ks, t, rfl, h1, h2, h3, h4⟩ g
    exact ⟨va, vk, ks, t ++ uss, rfl, h1, h2, h3, ihm h4 g⟩
/-- The cells of one node. -/
def FNode (B : Nat) (x : D) (v : Value) (W : World) : Prop :=
  ∃ (i0 : Int) (s1 s2 : ByteArray) (a3 : Option Addr) (n3 c3 : Nat) (a4 : Option Addr) (n4 c4 : Nat), v = .agg #[.int .i64 i0, .string s1, .string s2, .slice a3 n3 c3, .slice a4 n4 c4] ∧ DRep W (B ≤ ·) x [[.int .i64 i0, .string s1, .string s2, .slice a3 n3 c3, .slice a4 n4 c4]]
theorem FNode.keep {B : Nat} {x : D} {v : Value} {W W' : World} (h : FNode B x v W) {X : Nat → Prop} (k : Kp X W W') (hX : ∀ i, B ≤ i → ¬ X i) : FNode B x v W' := by
  obtain ⟨i0, s1, s2, a3, n3, c3, a4, n4, c4, e, h⟩ := h
  exact ⟨i0, s1, s2, a3, n3, c3, a4, n4, c4, e, h.keep k.size fun b hb h1 => ⟨h1, k.block b hb (hX b h1)⟩⟩

/-- What 'nodes' comes to, the row lying in block q (whose cells are told by cs). -/
def PostN (w0 : World) (R q : Nat) (cs : Value → Array Value) (ty : TypeId) (W : World) (r : Option (D × Str)) (e : Ending) (W' : World) : Prop :=
  match r with
  | none => e = .panicked [pz] ∧ Kp (fun i => i = R ∨ i = q) W W' ∧ ∃ v, W'.heap[q]? = some (.cells (cs v) ty (0, 0))
  | some (d, r') => e = .returned (.tuple #[]) ∧ RD w0 R r' W' ∧ Kp (fun i => i = R ∨ i = q) W W' ∧ ∃ v vss, W'.heap[q]? = some (.cells (cs v) ty (0, 0)) ∧ W'.ownsRow W.heap.size 58 5 v vss.length vss.flatten ∧ DRep W' (fun b => W.heap.size ≤ b ∧ v.ownBlock ≠ some b) d vss
/-- Nodes under way. -/
structure NS (w0 : World) (R q : Nat) (cs : Value → Array Value) (ty : TypeId) (W : World) (r : Str) (d : D) (vss : List (List Value)) (v : Value) (r' : Str) (wr : World) : Prop where
  box : wr.heap[q]? = some (.cells (cs v) ty (0, 0))
  own : wr.ownsRow W.heap.size 58 5 v vss.length vss.flatten
  rep : DRep wr (fun b => W.heap.size ≤ b ∧ v.ownBlock ≠ some b) d vss
  rd : RD w0 R r' wr
  kp : Kp (fun i => i = R ∨ i = q) W wr
  eq : rdR r = (rdR r').map fun y => (d.app y.1, y.2)
  len : vss.length + r'.length ≤ r.length
section
variable {w0 : World} {R q : Nat} {cs : Value → Array Value} {ty : TypeId} {W : World} {r : Str} {d : D} {vss : List (List Value)} {v : Value} {r' : Str} {wr w2 w3 : World}
/-- A node more. -/
theorem NS.more (h : NS w0 R q cs ty W r d vss v r' wr) (hq : q < W.heap.size) (hR : R < W.heap.size) (hqR : q ≠ R) (hq0 : w0.heap.size ≤ q) {x : D} {r2 : Str} (hs : stop r' = false) (hx : nodeR (Lib.trimPrefix r' [32]) = some (x, r2)) (hk : Kp (· = R) wr w2) (hrd : RD w0 R r2 w2)
    {vs : List Value} (hn : DRep w2 (wr.heap.size ≤ ·) x [vs]) {v' : Value} (h1 : w3.heap[q]? = some (.cells (cs v') ty (0, 0))) (h2 : w3.ownsRow W.heap.size 58 5 v' (vss.length + 1) (vss.flatten ++ vs)) (h4 : Kp (fun i => i = q ∨ v.ownBlock = some i) w2 w3) (h5 : ∀ g, v'.ownBlock = some g → v.ownBlock = some g ∨ w2.heap.size ≤ g) :
    NS w0 R q cs ty W r (d.app x) (vss ++ [vs]) v' r2 w3 := by
  have hv : ∀ g, v.ownBlock = some g → W.heap.size ≤ g ∧ g < wr.heap.size := fun g e => h.own.lt g e
  have hs1 := hk.size
  have hs2 := h4.size
  have hs0 := h.kp.size
  have hnl := nodeR_len hx
  have htl := trim_le r' [32]
  refine ⟨h1, ?_, ?_, ?_, ?_, ?_, ?_⟩
  · rw [List.length_append, List.flatten_append, List.length_singleton, List.flatten_singleton]; exact h2
  · refine DRep.app (h.rep.keep (by omega) fun b hb hok => ?_) (hn.keep hs2 fun b hb hok => ?_)
    · refine ⟨⟨hok.1, fun e => ?_⟩, ?_⟩
      · rcases h5 b e with h6 | h6
        · exact hok.2 h6
        · omega
      · exact (h4.block b (by omega) (fun e => e.elim (fun e => by omega) (fun e => hok.2 e))).trans (hk.block b hb (fun e => by omega))
    · refine ⟨⟨by omega, fun e => ?_⟩, h4.block b hb (fun e => e.elim (fun e => by omega) (fun e => by have := (hv b e).2; omega))⟩
      rcases h5 b e with h6 | h6
      · have := (hv b h6).2; omega
      · omega
  · refine hrd.kp h4 (fun e => e.elim (fun e => hqR e.symm) (fun e => by have := (hv R e).1; omega)) (fun i hi e => e.elim (fun e => by omega) (fun e => by have := (hv i e).1; have := hrd.base; omega))
  · exact (h.kp.then hk (fun i hi e => .inl e)).then h4 (fun i hi e => e.elim .inr (fun e => by have := (hv i e).1; omega))
  · rw [h.eq, rdR_eq r', if_neg (by rw [hs]; exact Bool.false_ne_true), hx]
    simp only [Option.bind_some]
    cases rdR r2 with
    | none => rfl
    | some y => simp [D.app_assoc]
  · have := h.len
    simp only at hnl
    rw [List.length_append, List.length_singleton]
    omega
theorem NS.bad (h : NS w0 R q cs ty W r d vss v r' wr) (hs : stop r' = false) (hx : nodeR (Lib.trimPrefix r' [32]) = none) : rdR r = none := by
  rw [h.eq, rdR_eq r', if_neg (by rw [hs]; exact Bool.false_ne_true), hx]; rfl
theorem NS.fin (h : NS w0 R q cs ty W r d vss v r' wr) (hs : stop r' = true) : PostN w0 R q cs ty W (rdR r) (.returned (.tuple #[])) wr := by
  have e : rdR r = some (d, r') := by rw [h.eq, rdR_eq r', if_pos hs]; simp [D.app_nil]
  rw [e]
  exact ⟨rfl, h.rd, h.kp, v, vss, h.box, h.own, h.rep⟩
end
end Go.Proofs.YtajmdhcknmmbbaaGreatDoor.Sh
