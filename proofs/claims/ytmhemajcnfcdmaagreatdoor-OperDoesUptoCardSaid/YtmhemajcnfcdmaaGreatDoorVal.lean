/-
  Plain: an api.Value that lies in memory, as a tree of its own ('V'), and how a reading opens into one ('open_V'). No program is imported.
  Conditions: none.
-/
import Derived.Deep.Slices
import Derived.Below
namespace Go.Proofs.YtmhemajcnfcdmaaGreatDoor
open Go.ChangeShapes Go.WideShapes Go.RowKit Go.Deep
inductive V where
  | leaf
  | mk (k n : Int) (s : ByteArray) (la : Option Addr) (ll lc : Nat) (L : Nat → V) (fa : Option Addr) (fl fc : Nat) (fn : Nat → ByteArray) (F : Nat → V) (e : Int) (key : ByteArray) (hk : Bool)
instance : Inhabited V := ⟨.leaf⟩
def V.cells : V → List Value
  | .leaf => []
  | .mk k n s la ll lc _ fa fl fc _ _ e key hk => [.int .u8 k, .int .i64 n, .string s, .slice la ll lc, .slice fa fl fc, .int .u8 e, .string key, .bool hk]
def V.agg (v : V) : Value := .agg v.cells.toArray
def At (w : World) (b o : Nat) (cs : List Value) : Prop := ∀ i, i < cs.length → w.cell? ⟨b, o + i, none⟩ = cs[i]?
def V.In (w : World) : V → Prop
  | .leaf => False
  | .mk k n s la ll lc L fa fl fc fn F e key _ => (0 ≤ k ∧ k ≤ 255) ∧ (-9223372036854775808 ≤ n ∧ n ≤ 9223372036854775807) ∧ s.size ≤ maxLen ∧ (0 ≤ e ∧ e ≤ 255) ∧ key.size ≤ maxLen ∧ (ll ≤ lc ∧ lc ≤ maxLen) ∧ (fl ≤ fc ∧ fc ≤ maxLen) ∧
      (∀ i, i < ll → (∃ b o, la = some ⟨b, o, none⟩ ∧ At w b (o + i * 8) (L i).cells) ∧ (L i).In w) ∧
      (∀ i, i < fl → (∃ b o, fa = some ⟨b, o, none⟩ ∧ At w b (o + i * 9) (.string (fn i) :: (F i).cells)) ∧ (fn i).size ≤ maxLen ∧ (F i).In w)
theorem At.mono {w w' : World} {b o : Nat} {cs : List Value} (hh : ∀ a : Addr, a.block < w.heap.size → w'.cell? a = w.cell? a) (h : At w b o cs) : At w' b o cs := by
  intro i hi
  have h0 := h i hi
  rw [List.getElem?_eq_getElem hi] at h0 ⊢
  have hlt : b < w.heap.size := World.block_lt_of_cell? _ _ h0
  rw [hh _ hlt, h0]
theorem V.In.mono {w w' : World} (hh : ∀ a : Addr, a.block < w.heap.size → w'.cell? a = w.cell? a) : ∀ {v : V}, v.In w → v.In w' := by
  intro v
  induction v with
  | leaf => exact id
  | mk k n s la ll lc L fa fl fc fn F e key hk ihL ihF =>
    rintro ⟨h1, h2, h3, h4, h5, h6, h7, hL, hF⟩
    refine ⟨h1, h2, h3, h4, h5, h6, h7, fun i hi => ?_, fun i hi => ?_⟩
    · obtain ⟨⟨b, o, e1, ha⟩, hi'⟩ := hL i hi
      exact ⟨⟨b, o, e1, ha.mono hh⟩, ihL i hi'⟩
    · obtain ⟨⟨b, o, e1, ha⟩, hs, hi'⟩ := hF i hi
      exact ⟨⟨b, o, e1, ha.mono hh⟩, hs, ihF i hi'⟩
theorem V.In.below {w w' : World} (hb : Below w.heap.size w w') {v : V} (h : v.In w) : v.In w' := V.In.mono (fun _ ha => hb.cell ha) h
theorem V.In.drew {w : World} {v : V} (h : v.In w) : v.In w.drew := V.In.mono (w := w) (w' := w.drew) (fun _ _ => rfl) h
section
variable {H : Type} {enc : TypeId × Value → H} {P : Program} {w : World} {base : Nat} {held : Bool}
structure VTypes (P : Program) (tv tsl tsf tf : TypeId) where
  (tk tn ts te tb tfv tfn : TypeId)
  (f0 f1 f2 f3 f4 f5 f6 f7 g0 g1 : Field)
  hv : P.underlying tv = some (.struct #[f0, f1, f2, f3, f4, f5, f6, f7])
  cv : P.cellsOf tv = 8
  hsl : P.underlying tsl = some (.slice tv)
  hsf : P.underlying tsf = some (.slice tf)
  hf : P.underlying tf = some (.struct #[g0, g1])
  cf : P.cellsOf tf = 9
  t0 : P.underlying f0.type = some (.int .u8) ∧ P.cellsOf f0.type = 1 ∧ f0.offset = 0
  t1 : P.underlying f1.type = some (.int .i64) ∧ P.cellsOf f1.type = 1 ∧ f1.offset = 1
  t2 : P.underlying f2.type = some .string ∧ P.cellsOf f2.type = 1 ∧ f2.offset = 2
  t3 : f3.type = tsl ∧ P.cellsOf f3.type = 1 ∧ f3.offset = 3
  t4 : f4.type = tsf ∧ P.cellsOf f4.type = 1 ∧ f4.offset = 4
  t5 : P.underlying f5.type = some (.int .u8) ∧ P.cellsOf f5.type = 1 ∧ f5.offset = 5
  t6 : P.underlying f6.type = some .string ∧ P.cellsOf f6.type = 1 ∧ f6.offset = 6
  t7 : P.underlying f7.type = some .bool ∧ P.cellsOf f7.type = 1 ∧ f7.offset = 7
  s0 : P.underlying g0.type = some .string ∧ P.cellsOf g0.type = 1 ∧ g0.offset = 0
  s1 : g1.type = tv ∧ P.cellsOf g1.type = 8 ∧ g1.offset = 1
theorem wf_u8 {n : Int} (h : (Lit.int .u8 n).wf = true) : 0 ≤ n ∧ n ≤ 255 := by
  simp [Lit.wf, IntKind.min, IntKind.max, IntKind.signed, IntKind.bits] at h
  omega
theorem wf_i64 {n : Int} (h : (Lit.int .i64 n).wf = true) : -9223372036854775808 ≤ n ∧ n ≤ 9223372036854775807 := by
  simp [Lit.wf, IntKind.min, IntKind.max, IntKind.signed, IntKind.bits] at h
  omega
theorem at_of_cells? {a : Addr} {n : Nat} {cs : List Value} (hn : 0 < n) (h : w.cells? base a n = some cs) : ∃ b o, a = ⟨b, o, none⟩ ∧ At w b o cs ∧ cs.length = n := by
  obtain ⟨_, hlen, hcell⟩ := World.cells?_some h
  obtain ⟨b, o, spot⟩ := a
  have h0 := hcell 0 hn
  rw [List.getElem?_eq_getElem (by omega)] at h0
  have hspot : spot = none := by simpa [Addr.add] using World.cell?_spot h0
  subst hspot
  refine ⟨b, o, rfl, fun i hi => ?_, hlen⟩
  have := hcell i (by omega)
  rwa [add_plain] at this
end
end Go.Proofs.YtmhemajcnfcdmaaGreatDoor
