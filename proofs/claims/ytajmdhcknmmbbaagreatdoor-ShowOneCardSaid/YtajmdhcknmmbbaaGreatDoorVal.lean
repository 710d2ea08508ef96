/-
  Plain: an api.Value that lies in memory, as a tree of its own ('V'), and how a reading opens into one ('open_V'). No program is imported.
  Conditions: none.
-/
import Derived.Deep.Slices
import Derived.Below
namespace Go.Proofs.YtajmdhcknmmbbaaGreatDoor
open Go.ChangeShapes Go.WideShapes Go.RowKit Go.Deep

/-- A value with its two lists' addresses, lengths and capacities. The elements go by their index; what stands at an index that is not below the length counts for nothing ('leaf'). -/
inductive V where
  | leaf
  | mk (k n : Int) (s : ByteArray) (la : Option Addr) (ll lc : Nat) (L : Nat → V) (fa : Option Addr) (fl fc : Nat) (fn : Nat → ByteArray) (F : Nat → V) (e : Int) (key : ByteArray) (hk : Bool)

instance : Inhabited V := ⟨.leaf⟩

def V.cells : V → List Value
  | .leaf => []
  | .mk k n s la ll lc _ fa fl fc _ _ e key hk => [.int .u8 k, .int .i64 n, .string s, .slice la ll lc, .slice fa fl fc, .int .u8 e, .string key, .bool hk]

/-- The value as an aggregate in a register. -/
def V.agg (v : V) : Value := .agg v.cells.toArray

/-- Cells one behind the other. -/
def At (w : World) (b o : Nat) (cs : List Value) : Prop := ∀ i, i < cs.length → w.cell? ⟨b, o + i, none⟩ = cs[i]?

/-- THE VALUE's PARTS LIE IN 'w', its numbers and lengths are in range. -/
def V.In (w : World) : V → Prop
  | .leaf => False
  | .mk k n s la ll lc L fa fl fc fn F e key _ => (0 ≤ k ∧ k ≤ 255) ∧ (-9223372036854775808 ≤ n ∧ n ≤ 9223372036854775807) ∧ s.size ≤ maxLen ∧ (0 ≤ e ∧ e ≤ 255) ∧ key.size ≤ maxLen ∧ (ll ≤ lc ∧ lc ≤ maxLen) ∧ (fl ≤ fc ∧ fc ≤ maxLen) ∧
      (∀ i, i < ll → (∃ b o, la = some ⟨b, o, none⟩ ∧ At w b (o + i * 8) (L i).cells) ∧ (L i).In w) ∧
      (∀ i, i < fl → (∃ b o, fa = some ⟨b, o, none⟩ ∧ At w b (o + i * 9) (.string (fn i) :: (F i).cells)) ∧ (fn i).size ≤ maxLen ∧ (F i).In w)

theorem At.mono {w w' : World} {b o : Nat} {cs : List Value} (hh : ∀ a : Addr, a.block < w.heap.size → w'.cell? a = w.cell? a) (h : At w b o cs) : At w' b o cs := by
  intro i hi
  have h0 := h i hi
  rw [List.getElem?_eq_getElem hi] at h0 ⊢
  have hlt : b < w.heap.size := World.block_lt_of_cell? _ _ h0
  rw [hh _ hlt, h0]

theorem V.In.mono {w w' : World} (hh : ∀ a : Addr, a.block < w.heap.size → w'.cell? a = w.cell? a) : ∀ {v : V}, v.In w → v.In w' := by
  intro v
  induction v with
  | leaf => exact id
  | mk k n s la ll lc L fa fl fc fn F e key hk ihL ihF =>
    rintro ⟨h1, h2, h3, h4, h5, h6, h7, hL, hF⟩
    refine ⟨h1, h2, h3, h4, h5, h6, h7, fun i hi => ?_, fun i hi => ?_⟩
    · obtain ⟨⟨b, o, e1, ha⟩, hi'⟩ := hL i hi
      exact ⟨⟨b, o, e1, ha.mono hh⟩, ihL i hi'⟩
    · obtain ⟨⟨b, o, e1, ha⟩, hs, hi'⟩ := hF i hi
      exact ⟨⟨b, o, e1, ha.mono hh⟩, hs, ihF i hi'⟩

theorem V.In.below {w w' : World} (hb : Below w.heap.size w w') {v : V} (h : v.In w) : v.In w' := V.In.mono (fun _ ha => hb.cell ha) h

theorem V.In.drew {w : World} {v : V} (h : v.In w) : v.In w.drew := V.In.mono (w := w) (w' := w.drew) (fun _ _ => rfl) h

/-! ### Down: a reading opens -/
section
variable {H : Type} {enc : TypeId × Value → H} {P : Program} {w : World} {base : Nat} {held : Bool}

/-- What the type table says of the types of a value. 'tv': the struct under api.Value, and so on. -/
structure VTypes (P : Program) (tv tsl tsf tf : TypeId) where
  (tk tn ts te tb tfv tfn : TypeId)
  (f0 f1 f2 f3 f4 f5 f6 f7 g0 g1 : Field)
  hv : P.underlying tv = some (.struct #[f0, f1, f2, f3, f4, f5, f6, f7])
  cv : P.cellsOf tv = 8
  hsl : P.underlying tsl = some (.slice tv)
  hsf : P.underlying tsf = some (.slice tf)
  hf : P.underlying tf = some (.struct #[g0, g1])
  cf : P.cellsOf tf = 9
  t0 : P.underlying f0.type = some (.int .u8) ∧ P.cellsOf f0.type = 1 ∧ f0.offset = 0
  t1 : P.underlying f1.type = some (.int .i64) ∧ P.cellsOf f1.type = 1 ∧ f1.offset = 1
  t2 : P.underlying f2.type = some .string ∧ P.cellsOf f2.type = 1 ∧ f2.offset = 2
  t3 : f3.type = tsl ∧ P.cellsOf f3.type = 1 ∧ f3.offset = 3
  t4 : f4.type = tsf ∧ P.cellsOf f4.type = 1 ∧ f4.offset = 4
  t5 : P.underlying f5.type = some (.int .u8) ∧ P.cellsOf f5.type = 1 ∧ f5.offset = 5
  t6 : P.underlying f6.type = some .string ∧ P.cellsOf f6.type = 1 ∧ f6.offset = 6
  t7 : P.underlying f7.type = some .bool ∧ P.cellsOf f7.type = 1 ∧ f7.offset = 7
  s0 : P.underlying g0.type = some .string ∧ P.cellsOf g0.type = 1 ∧ g0.offset = 0
  s1 : g1.type = tv ∧ P.cellsOf g1.type = 8 ∧ g1.offset = 1

theorem wf_u8 {n : Int} (h : (Lit.int .u8 n).wf = true) : 0 ≤ n ∧ n ≤ 255 := by
  simp [Lit.wf, IntKind.min, IntKind.max, IntKind.signed, IntKind.bits] at h
  omega

theorem wf_i64 {n : Int} (h : (Lit.int .i64 n).wf = true) : -9223372036854775808 ≤ n ∧ n ≤ 9223372036854775807 := by
  simp [Lit.wf, IntKind.min, IntKind.max, IntKind.signed, IntKind.bits] at h
  omega

/-- Cells that are read together stand one behind the other. -/
theorem at_of_cells? {a : Addr} {n : Nat} {cs : List Value} (hn : 0 < n) (h : w.cells? base a n = some cs) : ∃ b o, a = ⟨b, o, none⟩ ∧ At w b o cs ∧ cs.length = n := by
  obtain ⟨_, hlen, hcell⟩ := World.cells?_some h
  obtain ⟨b, o, spot⟩ := a
  have h0 := hcell 0 hn
  rw [List.getElem?_eq_getElem (by omega)] at h0
  have hspot : spot = none := by simpa [Addr.add] using World.cell?_spot h0
  subst hspot
  refine ⟨b, o, rfl, fun i hi => ?_, hlen⟩
  have := hcell i (by omega)
  rwa [add_plain] at this

theorem open_V {tv tsl tsf tf : TypeId} (T : VTypes P tv tsl tsf tf) {spare : Nat → Bool} : ∀ (fuel : Nat) (cs : List Value) (x : DataW H × List MemPlace), DataW.trod enc P w base spare held fuel tv cs = some x →
    ∃ v : V, cs = v.cells ∧ v.In w := by
  intro fuel
  induction fuel using Nat.strongRecOn with
  | _ fuel ih =>
    intro cs x h
    obtain ⟨xs, m, rfl, rfl, hl, hlen, hf⟩ := DataW.trod_struct T.hv h
    rw [T.cv] at hl
    match xs, hlen, cs, hl with
    | [y0, y1, y2, y3, y4, y5, y6, y7], _, [v0, v1, v2, v3, v4, v5, v6, v7], _ =>
      have g0 := hf 0 T.f0 rfl
      have g1 := hf 1 T.f1 rfl
      have g2 := hf 2 T.f2 rfl
      have g3 := hf 3 T.f3 rfl
      have g4 := hf 4 T.f4 rfl
      have g5 := hf 5 T.f5 rfl
      have g6 := hf 6 T.f6 rfl
      have g7 := hf 7 T.f7 rfl
      rw [T.t0.2.2, T.t0.2.1] at g0
      rw [T.t1.2.2, T.t1.2.1] at g1
      rw [T.t2.2.2, T.t2.2.1] at g2
      rw [T.t3.2.2, T.t3.2.1, T.t3.1] at g3
      rw [T.t4.2.2, T.t4.2.1, T.t4.1] at g4
      rw [T.t5.2.2, T.t5.2.1] at g5
      rw [T.t6.2.2, T.t6.2.1] at g6
      rw [T.t7.2.2, T.t7.2.1] at g7
      simp at g0 g1 g2 g3 g4 g5 g6 g7
      obtain ⟨k, hv0, -, wk⟩ := DataW.trod_int T.t0.1 g0
      obtain ⟨n, hv1, -, wn⟩ := DataW.trod_int T.t1.1 g1
      obtain ⟨s, hv2, -, ws⟩ := DataW.trod_string T.t2.1 g2
      obtain ⟨e, hv5, -, we⟩ := DataW.trod_int T.t5.1 g5
      obtain ⟨key, hv6, -, wkey⟩ := DataW.trod_string T.t6.1 g6
      obtain ⟨hk, hv7, -⟩ := DataW.trod_bool T.t7.1 g7
      simp at hv0 hv1 hv2 hv5 hv6 hv7
      subst hv0 hv1 hv2 hv5 hv6 hv7
      -- the list of values
      have hL : ∃ la ll lc, v3 = Value.slice la ll lc ∧ (ll ≤ lc ∧ lc ≤ maxLen) ∧ ∃ L : Nat → V, ∀ i, i < ll → (∃ b o, la = some ⟨b, o, none⟩ ∧ At w b (o + i * 8) (L i).cells) ∧ (L i).In w := by
        rcases DataW.trod_slice T.hsl g3 with ⟨h0, -⟩ | ⟨a, len, cap, elems, rest, n', hn', hcs, -, hb, hlc, hm, hle, hel, -, -⟩
        · simp at h0
          exact ⟨none, 0, 0, h0, ⟨Nat.le_refl _, by decide⟩, fun _ => .leaf, fun i hi => absurd hi (Nat.not_lt_zero _)⟩
        · simp at hcs
          refine ⟨some a, len, cap, hcs, ⟨hlc, hm⟩, ?_⟩
          have ha0 : 0 < len → ∃ b o, a = ⟨b, o, none⟩ := fun h0 => by
            have h1 := hel 0 h0
            rw [List.getElem?_eq_getElem (by omega)] at h1
            obtain ⟨cs', hc1, -⟩ := Option.bind_eq_some_iff.1 h1
            obtain ⟨b, o, ha, -, -⟩ := at_of_cells? (by rw [T.cv]; decide) hc1
            exact ⟨b, o, by simpa [Addr.add] using ha⟩
          refine choose_lt (p := fun i (v : V) => (∃ b o, some a = some ⟨b, o, none⟩ ∧ At w b (o + i * 8) v.cells) ∧ v.In w) fun i hi => ?_
          have h1 := hel i hi
          rw [List.getElem?_eq_getElem (by omega)] at h1
          obtain ⟨cs', hc1, hc2⟩ := Option.bind_eq_some_iff.1 h1
          rw [T.cv] at hc1
          obtain ⟨v, rfl, hv⟩ := ih n' (by omega) cs' _ hc2
          obtain ⟨b, o, rfl⟩ := ha0 (by omega)
          rw [add_plain] at hc1
          obtain ⟨b', o', ha, hat, -⟩ := at_of_cells? (by decide) hc1
          simp only [Addr.mk.injEq, and_true] at ha
          obtain ⟨h1, h2⟩ := ha
          subst h1 h2
          exact ⟨v, ⟨b, o, rfl, hat⟩, hv⟩
      have hF : ∃ fa fl fc, v4 = Value.slice fa fl fc ∧ (fl ≤ fc ∧ fc ≤ maxLen) ∧ ∃ q : Nat → ByteArray × V, ∀ i, i < fl → (∃ b o, fa = some ⟨b, o, none⟩ ∧ At w b (o + i * 9) (.string (q i).1 :: (q i).2.cells)) ∧ (q i).1.size ≤ maxLen ∧ (q i).2.In w := by
        rcases DataW.trod_slice T.hsf g4 with ⟨h0, -⟩ | ⟨a, len, cap, elems, rest, n', hn', hcs, -, hb, hlc, hm, hle, hel, -, -⟩
        · simp at h0
          exact ⟨none, 0, 0, h0, ⟨Nat.le_refl _, by decide⟩, fun _ => (⟨#[]⟩, .leaf), fun i hi => absurd hi (Nat.not_lt_zero _)⟩
        · simp at hcs
          refine ⟨some a, len, cap, hcs, ⟨hlc, hm⟩, ?_⟩
          have ha0 : 0 < len → ∃ b o, a = ⟨b, o, none⟩ := fun h0 => by
            have h1 := hel 0 h0
            rw [List.getElem?_eq_getElem (by omega)] at h1
            obtain ⟨cs', hc1, -⟩ := Option.bind_eq_some_iff.1 h1
            obtain ⟨b, o, ha, -, -⟩ := at_of_cells? (by rw [T.cf]; decide) hc1
            exact ⟨b, o, by simpa [Addr.add] using ha⟩
          have : Inhabited (ByteArray × V) := ⟨(⟨#[]⟩, .leaf)⟩
          refine choose_lt (p := fun i (q : ByteArray × V) => (∃ b o, some a = some ⟨b, o, none⟩ ∧ At w b (o + i * 9) (.string q.1 :: q.2.cells)) ∧ q.1.size ≤ maxLen ∧ q.2.In w) fun i hi => ?_
          have h1 := hel i hi
          rw [List.getElem?_eq_getElem (by omega)] at h1
          obtain ⟨cs', hc1, hc2⟩ := Option.bind_eq_some_iff.1 h1
          rw [T.cf] at hc1
          obtain ⟨xs', m', rfl, -, hl', hlen', hf'⟩ := DataW.trod_struct T.hf hc2
          rw [T.cf] at hl'
          obtain ⟨b, o, rfl⟩ := ha0 (by omega)
          rw [add_plain] at hc1
          obtain ⟨b', o', ha, hat, -⟩ := at_of_cells? (by decide) hc1
          simp only [Addr.mk.injEq, and_true] at ha
          obtain ⟨h1, h2⟩ := ha
          subst h1 h2
          match xs', hlen', cs', hl' with
          | [z0, z1], _, c0 :: cr, hl'' =>
            have e0 := hf' 0 T.g0 rfl
            have e1 := hf' 1 T.g1 rfl
            rw [T.s0.2.2, T.s0.2.1] at e0
            rw [T.s1.2.2, T.s1.2.1, T.s1.1] at e1
            simp at e0 e1
            simp at hl''
            rw [List.take_of_length_le (by omega)] at e1
            obtain ⟨nm, hnm, -, wnm⟩ := DataW.trod_string T.s0.1 e0
            simp at hnm
            subst hnm
            obtain ⟨v, rfl, hv⟩ := ih m' (by omega) cr _ e1
            exact ⟨(nm, v), ⟨b, o, rfl, hat⟩, wnm, hv⟩
      obtain ⟨la, ll, lc, rfl, hlr, L, hL⟩ := hL
      obtain ⟨fa, fl, fc, rfl, hfr, q, hF⟩ := hF
      exact ⟨.mk k n s la ll lc L fa fl fc (fun i => (q i).1) (fun i => (q i).2) e key hk, rfl, wf_u8 wk, wf_i64 wn, ws, wf_u8 we, wkey, hlr, hfr, hL, hF⟩
end
end Go.Proofs.YtajmdhcknmmbbaaGreatDoor
