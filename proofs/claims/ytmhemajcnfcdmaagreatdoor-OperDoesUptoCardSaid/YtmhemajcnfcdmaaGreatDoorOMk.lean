/-
  The seat's door: what the listed variables hold gives the three tables ('tabs_of_laid'); a world for the witness in which they hold it ('laid_met'); how an argument opens.
  Conditions: none.
  OperDoes' card, in the second form: for any text and any values whose readings are together of bulk at most 2^20 the law returns true and leaves its arguments as they were: every operation answers the documented value, or cannot be done.
  Conditions: the second form's bound on the bulk; the listed variables are tied to the program's text by the card.
-/
import Derived.Test.YtmhemajcnfcdmaaGreatDoorTabs
import Derived.Test.YtmhemajcnfcdmaaGreatDoorCards
import Derived.Test.YtmhemajcnfcdmaaGreatDoorTie
import Derived.ChangeSame
import Derived.JoinedOf
import Derived.JoinedAt
import Derived.RowKit
import Derived.RowKit2
import Derived.ReadAgain
import Derived.ChangeAlike
import Derived.ProofKit
import Derived.OpenShut
import Derived.Deep.DeepHandedRow
import Derived.Lib.LaidTab
import Derived.Lib.LaidU8
import Derived.Deep.DeepLaidRun
import Derived.Test.YtmhemajcnfcdmaaGreatDoorOMj
import Derived.Test.YtmhemajcnfcdmaaGreatDoorOMb
import Derived.ChangeMaps5
import Derived.SizedLaws
namespace Go.Proofs.YtmhemajcnfcdmaaGreatDoor
open Go.ChangeShapes Go.WideShapes Go.ChangeAt Go.RowKit Go.Deep
theorem Tryz.own : ownKnob Tryz.prog.godebug = none := by kernel_rfl
theorem Tryz.laidOut : laidOutB Tryz.prog = true := by kernel_rfl
theorem gRows : Tryz.prog.globalNamed "tapestry/value.rows" = some 0 := by kernel_rfl
theorem gRowsT : (Tryz.prog.globals[0]?).map (·.type) = some 220 := by kernel_rfl
theorem gWords : Tryz.prog.globalNamed "tapestry/value.words" = some 1 := by kernel_rfl
theorem gWordsT : (Tryz.prog.globals[1]?).map (·.type) = some 252 := by kernel_rfl
theorem gPow : Tryz.prog.globalNamed "internal/strconv.uint64pow10" = some 2 := by kernel_rfl
theorem gPowT : (Tryz.prog.globals[2]?).map (·.type) = some 261 := by kernel_rfl
theorem cRow : Tryz.prog.cellsOf 219 = 5 := by kernel_rfl
theorem cStr : Tryz.prog.cellsOf 9 = 1 := by kernel_rfl
section
variable {H : Type} {enc : TypeId × Value → H} {P : Program} {w : World} {base : Nat} {sp : Nat → Bool} {held : Bool}
theorem bools_of_struct {fuel : Nat} {t : TypeId} {fs : Array Field} {cs : List Value} {zs : List Bool} {p : List MemPlace} (ht : P.underlying t = some (.struct fs))
    (hf : ∀ (i : Nat) (f : Field), fs[i]? = some f → P.underlying f.type = some .bool ∧ f.offset = i ∧ P.cellsOf f.type = 1) (hct : P.cellsOf t = fs.size)
    (h : DataW.trod enc P w base sp held fuel t cs = some (.agg (zs.map fun z => .lit (.bool z)), p)) : cs = zs.map Value.bool := by
  obtain ⟨xs, n, rfl, hx, hl, hxl, hall⟩ := DataW.trod_struct ht h
  have hxs : xs.map (·.1) = zs.map fun z => (DataW.lit (.bool z) : DataW H) := by
    have := congrArg Prod.fst hx
    simpa using this.symm
  have hzl : zs.length = fs.size := by
    have := congrArg List.length hxs
    simp at this
    omega
  apply List.ext_getElem?
  intro i
  by_cases hi : i < fs.size
  · obtain ⟨hu, ho, hc⟩ := hf i fs[i] (by simp [hi])
    have h1 := hall i fs[i] (by simp [hi])
    obtain ⟨b, hb⟩ : ∃ b, xs[i]? = some b := ⟨xs[i]'(by omega), List.getElem?_eq_getElem (by omega)⟩
    rw [hb, ho, hc] at h1
    obtain ⟨z, hcz, rfl⟩ := DataW.trod_bool hu h1
    have h2 : cs[i]? = some (.bool z) := by
      have := congrArg (·[0]?) hcz
      simpa [List.getElem?_take, List.getElem?_drop] using this
    have h3 : (xs.map (·.1))[i]? = some (DataW.lit (.bool z) : DataW H) := by simp [hb]
    rw [hxs] at h3
    simp only [List.getElem?_map, Option.map_eq_some_iff, DataW.lit.injEq, Lit.bool.injEq] at h3
    obtain ⟨z', hz', rfl⟩ := h3
    simp [h2, hz']
  · rw [List.getElem?_eq_none (by omega), List.getElem?_eq_none (by simp; omega)]
end
theorem rows_of_reads {W : World} (h : Lib.VarReads Tryz.prog W "tapestry/value.rows" Rows.laid_tapestry_value_rows) : RowsAt W := by
  obtain ⟨g, t, cs, fuel, p, hg, ht, hv, hd⟩ := h
  obtain rfl := Option.some.inj (gRows.symm.trans hg)
  obtain rfl := Option.some.inj (gRowsT.symm.trans ht)
  have hq : ∀ q, q < 8 → (cs.toList.drop (q * 5)).take 5 = ((rowsL.drop (q * 5)).take 5).map Value.bool := by
    intro q hq
    obtain ⟨fuel', d, p', e1, e2⟩ := Lib.array_elem Tryz.underlying220 hd q hq
    rw [cRow] at e2
    have e3 : some d = some (DataW.agg (((rowsL.drop (q * 5)).take 5).map fun z => .lit (.bool z))) := by
      rw [← e1]
      match q, hq with
      | 0, _ | 1, _ | 2, _ | 3, _ | 4, _ | 5, _ | 6, _ | 7, _ => rfl
    obtain rfl := Option.some.inj e3
    refine bools_of_struct Tryz.underlying219 (fun i f hf => ?_) (by kernel_rfl) e2
    match i, hf with
    | 0, hf | 1, hf | 2, hf | 3, hf | 4, hf =>
      simp at hf
      subst hf
      exact ⟨Tryz.underlying4, rfl, by kernel_rfl⟩
  intro i hi
  have e := hq (i / 5) (by omega)
  have e' := congrArg (fun l : List Value => l[i % 5]?) e
  simp only [List.getElem?_take, List.getElem?_drop, List.getElem?_map, if_pos (Nat.mod_lt i (show 0 < 5 by decide)), show i / 5 * 5 + i % 5 = i by omega] at e'
  have hlen : i < rowsL.length := hi
  rw [World.var?_cell gRows hv i, ← Array.getElem?_toList, e', List.getD_eq_getElem?_getD, List.getElem?_eq_getElem hlen]
  rfl
theorem words_of_reads {W : World} (h : Lib.VarReads Tryz.prog W "tapestry/value.words" Rows.laid_tapestry_value_words) : WordsAt W := by
  obtain ⟨g, t, cs, fuel, p, hg, ht, hv, hd⟩ := h
  obtain rfl := Option.some.inj (gWords.symm.trans hg)
  obtain rfl := Option.some.inj (gWordsT.symm.trans ht)
  intro i hi
  obtain ⟨fuel', d, p', e1, e2⟩ := Lib.array_elem Tryz.underlying252 hd i hi
  rw [cStr, Nat.mul_one] at e2
  have e3 : some d = some (DataW.lit (.string (wordL i))) := by
    rw [← e1]
    match i, hi with
    | 0, _ | 1, _ | 2, _ | 3, _ | 4, _ | 5, _ | 6, _ | 7, _ | 8, _ => rfl
  obtain rfl := Option.some.inj e3
  obtain ⟨s, hs, hx, -⟩ := DataW.trod_string Tryz.underlying9 e2
  simp only [Prod.mk.injEq, DataW.lit.injEq, Lit.string.injEq] at hx
  have e' := congrArg (fun l : List Value => l[0]?) hs
  simp only [List.getElem?_take, List.getElem?_drop, if_pos (show 0 < 1 by decide), Nat.add_zero] at e'
  rw [World.var?_cell gWords hv i, ← Array.getElem?_toList, e', hx.1]
  rfl
theorem tabs_of_laid {W : World} {l : List (String × DataW Unit)} (hl : l = [("math/bits.deBruijn32tab", Rows.laid_math_bits_deBruijn32tab), ("math/bits.deBruijn64tab", Rows.laid_math_bits_deBruijn64tab), ("internal/strconv.uint64pow10", Rows.laid_internal_strconv_uint64pow10), ("tapestry/value.rows", Rows.laid_tapestry_value_rows), ("tapestry/value.words", Rows.laid_tapestry_value_words)])
    (h : laidMetH Tryz.prog l W) : Tabs W := by
  subst hl
  refine ⟨rows_of_reads (Lib.laidMet.reads h (.tail _ (.tail _ (.tail _ (.head _))))), words_of_reads (Lib.laidMet.reads h (.tail _ (.tail _ (.tail _ (.tail _ (.head _)))))), ?_⟩
  obtain ⟨g, t, cs, fuel, p, hg, ht, hv, hd⟩ := Lib.laidMet.reads h (n := "internal/strconv.uint64pow10") (.tail _ (.tail _ (.head _)))
  obtain rfl := Option.some.inj (gPow.symm.trans hg)
  obtain rfl := Option.some.inj (gPowT.symm.trans ht)
  unfold Lib.TabIs
  rw [hv]
  congr 1
  have := Lib.cells_of_tab (zs := Lib.pow10Tab) Tryz.underlying261 Tryz.underlying223 (by kernel_rfl) (by kernel_rfl) hd
  rw [← this]
def lay (cs : Array Value) : Obj → Obj
  | .cells _ t frozen => .cells cs t frozen
  | o => o
noncomputable def laidWorld (os : Os) : World :=
  { World.holding Tryz.prog os ⟨#[], #[], []⟩ with heap := (((((World.holding Tryz.prog os ⟨#[], #[], []⟩).heap.modify 0 (lay #[.bool false, .bool false, .bool false, .bool false, .bool false, .bool true, .bool false, .bool false, .bool false, .bool false, .bool true, .bool false, .bool false, .bool false, .bool false, .bool false, .bool true, .bool false, .bool false, .bool false, .bool false, .bool false, .bool true, .bool false, .bool false, .bool false, .bool false, .bool false, .bool true, .bool false, .bool false, .bool true, .bool true, .bool true, .bool true, .bool true, .bool true, .bool false, .bool true, .bool false])).modify 1 (lay #[.string ⟨#[]⟩, .string ⟨#[104, 111, 115, 116]⟩, .string ⟨#[99, 111, 109, 112]⟩, .string ⟨#[109, 101, 109, 111]⟩, .string ⟨#[102, 114, 97, 103]⟩, .string ⟨#[112, 111, 114, 116, 97, 108]⟩, .string ⟨#[103, 105, 118, 101]⟩, .string ⟨#[103, 117, 97, 114, 100]⟩, .string ⟨#[119, 97, 105, 116]⟩])).modify 2 (lay #[.int .u64 1, .int .u64 10, .int .u64 100, .int .u64 1000, .int .u64 10000, .int .u64 100000, .int .u64 1000000, .int .u64 10000000, .int .u64 100000000, .int .u64 1000000000, .int .u64 10000000000, .int .u64 100000000000, .int .u64 1000000000000, .int .u64 10000000000000, .int .u64 100000000000000, .int .u64 1000000000000000, .int .u64 10000000000000000, .int .u64 100000000000000000, .int .u64 1000000000000000000, .int .u64 10000000000000000000])).modify 3 (lay #[.int .u8 0, .int .u8 1, .int .u8 28, .int .u8 2, .int .u8 29, .int .u8 14, .int .u8 24, .int .u8 3, .int .u8 30, .int .u8 22, .int .u8 20, .int .u8 15, .int .u8 25, .int .u8 17, .int .u8 4, .int .u8 8, .int .u8 31, .int .u8 27, .int .u8 13, .int .u8 23, .int .u8 21, .int .u8 19, .int .u8 16, .int .u8 7, .int .u8 26, .int .u8 12, .int .u8 18, .int .u8 6, .int .u8 11, .int .u8 5, .int .u8 10, .int .u8 9])).modify 4 (lay #[.int .u8 0, .int .u8 1, .int .u8 56, .int .u8 2, .int .u8 57, .int .u8 49, .int .u8 28, .int .u8 3, .int .u8 61, .int .u8 58, .int .u8 42, .int .u8 50, .int .u8 38, .int .u8 29, .int .u8 17, .int .u8 4, .int .u8 62, .int .u8 47, .int .u8 59, .int .u8 36, .int .u8 45, .int .u8 43, .int .u8 51, .int .u8 22, .int .u8 53, .int .u8 39, .int .u8 33, .int .u8 30, .int .u8 24, .int .u8 18, .int .u8 12, .int .u8 5, .int .u8 63, .int .u8 55, .int .u8 48, .int .u8 27, .int .u8 60, .int .u8 41, .int .u8 37, .int .u8 16, .int .u8 46, .int .u8 35, .int .u8 44, .int .u8 21, .int .u8 52, .int .u8 32, .int .u8 23, .int .u8 11, .int .u8 54, .int .u8 26, .int .u8 40, .int .u8 15, .int .u8 34, .int .u8 20, .int .u8 31, .int .u8 10, .int .u8 25, .int .u8 14, .int .u8 19, .int .u8 9, .int .u8 13, .int .u8 8, .int .u8 7, .int .u8 6]) }
set_option maxRecDepth 100000 in
theorem laid_met (os : Os) (args : Array Value) : laidMet Tryz.prog Rows.operDoesUptoRow.laid ((laidWorld os).forCall (fun _ _ => 0) ⟨#[], args, []⟩).memory :=
  laidMet_of_run3 8 (by kernel_rfl) (by kernel_rfl) (by kernel_rfl)
end Go.Proofs.YtmhemajcnfcdmaaGreatDoor
namespace Go.Proofs.YtmhemajcnfcdmaaGreatDoor
set_option linter.unusedVariables false
set_option linter.unusedSimpArgs false
open Go.ChangeShapes Go.ChangeMaps Go.WideShapes Go.ChangeAt Go.RowKit Go.Deep
theorem sumTo_front (n : Nat) (f : Nat → Nat) : sumTo (n + 1) f = f 0 + sumTo n (fun i => f (i + 1)) := by
  induction n with
  | zero => simp [sumTo]
  | succ n ih => rw [sumTo, ih, sumTo]; omega
theorem sumTo_bulk {H : Type} : ∀ (l : List (DataW H)) (f : Nat → Nat), (∀ i d, l[i]? = some d → f i ≤ Rows.uptoBulk d) → sumTo l.length f ≤ Rows.uptoBulkAll l
  | [], _, _ => Nat.zero_le _
  | d :: r, f, h => by
    rw [List.length_cons, sumTo_front, Rows.uptoBulkAll]
    have h0 := h 0 d rfl
    have h1 := sumTo_bulk r (fun i => f (i + 1)) (fun i d' hd => h (i + 1) d' hd)
    omega
theorem weightsAll_mem {H : Type} {P : Program} {e : TypeId} : ∀ (l : List (DataW H)) (i : Nat) (d : DataW H), l[i]? = some d → ∀ n, n ∈ d.weights P e → n ∈ DataW.weightsAll P e l
  | [], _, _, h, _, _ => by simp at h
  | d :: r, i, x, h, n, hn => by
    rw [DataW.weightsAll, List.mem_append]
    cases i with
    | zero => simp at h; subst h; exact .inl hn
    | succ i => exact .inr (weightsAll_mem r i x (by simpa using h) n hn)
def Light {H : Type} (P : Program) (t : TypeId) (d : DataW H) : Prop := ∀ n, n ∈ d.weights P t → n ≤ reachBytes
section
variable {H : Type} {enc : TypeId × Value → H} {P : Program} {w : World} {base : Nat} {held : Bool}
theorem open_V2 {tv tsl tsf tf : TypeId} (T : VTypes P tv tsl tsf tf) (hbv : P.bytesOf tv = 112) (hbf : P.bytesOf tf = 128) {spare : Nat → Bool} : ∀ (fuel : Nat) (cs : List Value) (x : DataW H × List MemPlace), DataW.trod enc P w base spare held fuel tv cs = some x →
    ∃ v : V, cs = v.cells ∧ v.In w ∧ (Light P tv x.1 → v.Fits) ∧ v.size ≤ Rows.uptoBulk x.1 := by
  intro fuel
  induction fuel using Nat.strongRecOn with
  | _ fuel ih =>
    intro cs x h
    obtain ⟨xs, m, rfl, rfl, hl, hlen, hf⟩ := DataW.trod_struct T.hv h
    rw [T.cv] at hl
    match xs, hlen, cs, hl with
    | [y0, y1, y2, y3, y4, y5, y6, y7], _, [v0, v1, v2, v3, v4, v5, v6, v7], _ =>
      have g0 := hf 0 T.f0 rfl
      have g1 := hf 1 T.f1 rfl
      have g2 := hf 2 T.f2 rfl
      have g3 := hf 3 T.f3 rfl
      have g4 := hf 4 T.f4 rfl
      have g5 := hf 5 T.f5 rfl
      have g6 := hf 6 T.f6 rfl
      have g7 := hf 7 T.f7 rfl
      rw [T.t0.2.2, T.t0.2.1] at g0
      rw [T.t1.2.2, T.t1.2.1] at g1
      rw [T.t2.2.2, T.t2.2.1] at g2
      rw [T.t3.2.2, T.t3.2.1, T.t3.1] at g3
      rw [T.t4.2.2, T.t4.2.1, T.t4.1] at g4
      rw [T.t5.2.2, T.t5.2.1] at g5
      rw [T.t6.2.2, T.t6.2.1] at g6
      rw [T.t7.2.2, T.t7.2.1] at g7
      simp at g0 g1 g2 g3 g4 g5 g6 g7
      obtain ⟨k, hv0, -, wk⟩ := DataW.trod_int T.t0.1 g0
      obtain ⟨n, hv1, -, wn⟩ := DataW.trod_int T.t1.1 g1
      obtain ⟨s, hv2, -, ws⟩ := DataW.trod_string T.t2.1 g2
      obtain ⟨e, hv5, -, we⟩ := DataW.trod_int T.t5.1 g5
      obtain ⟨key, hv6, -, wkey⟩ := DataW.trod_string T.t6.1 g6
      obtain ⟨hk, hv7, -⟩ := DataW.trod_bool T.t7.1 g7
      simp at hv0 hv1 hv2 hv5 hv6 hv7
      subst hv0 hv1 hv2 hv5 hv6 hv7
      have hL : ∃ la ll lc, v3 = Value.slice la ll lc ∧ (ll ≤ lc ∧ lc ≤ maxLen) ∧ ∃ L : Nat → V, (∀ i, i < ll → (∃ b o, la = some ⟨b, o, none⟩ ∧ At w b (o + i * 8) (L i).cells) ∧ (L i).In w) ∧
          (Light P tsl y3.1 → ll * 112 ≤ reachBytes ∧ ∀ i, i < ll → (L i).Fits) ∧ sumTo ll (fun i => (L i).size) ≤ Rows.uptoBulk y3.1 := by
        rcases DataW.trod_slice T.hsl g3 with ⟨h0, -⟩ | ⟨a, len, cap, elems, rest, n', hn', hcs, hy3, hb, hlc, hm, hle, hel, -, -⟩
        · simp at h0
          exact ⟨none, 0, 0, h0, ⟨Nat.le_refl _, by decide⟩, fun _ => .leaf, fun i hi => absurd hi (Nat.not_lt_zero _), fun _ => ⟨by simp, fun i hi => absurd hi (Nat.not_lt_zero _)⟩, Nat.zero_le _⟩
        · simp at hcs
          have ha0 : 0 < len → ∃ b o, a = ⟨b, o, none⟩ := fun h0 => by
            have h1 := hel 0 h0
            rw [List.getElem?_eq_getElem (by omega)] at h1
            obtain ⟨cs', hc1, -⟩ := Option.bind_eq_some_iff.1 h1
            obtain ⟨b, o, ha, -, -⟩ := at_of_cells? (by rw [T.cv]; decide) hc1
            exact ⟨b, o, by simpa [Addr.add] using ha⟩
          obtain ⟨L, hL⟩ := choose_lt (n := len) (p := fun i (v : V) => ((∃ b o, some a = some ⟨b, o, none⟩ ∧ At w b (o + i * 8) v.cells) ∧ v.In w) ∧ ∀ y, elems[i]? = some y → (Light P tv y.1 → v.Fits) ∧ v.size ≤ Rows.uptoBulk y.1) fun i hi => by
            have h1 := hel i hi
            rw [List.getElem?_eq_getElem (by omega)] at h1
            obtain ⟨cs', hc1, hc2⟩ := Option.bind_eq_some_iff.1 h1
            rw [T.cv] at hc1
            obtain ⟨v, rfl, hv, hv2⟩ := ih n' (by omega) cs' _ hc2
            obtain ⟨b, o, rfl⟩ := ha0 (by omega)
            rw [add_plain] at hc1
            obtain ⟨b', o', ha, hat, -⟩ := at_of_cells? (by decide) hc1
            simp only [Addr.mk.injEq, and_true] at ha
            obtain ⟨h1, h2⟩ := ha
            subst h1 h2
            refine ⟨v, ⟨⟨b, o, rfl, hat⟩, hv⟩, fun y hy => ?_⟩
            rw [List.getElem?_eq_getElem (by omega)] at hy
            rw [← Option.some.inj hy]
            exact hv2
          refine ⟨some a, len, cap, hcs, ⟨hlc, hm⟩, L, fun i hi => (hL i hi).1, fun hw => ?_, ?_⟩
          · have hy : y3.1 = .slice (elems.map (·.1)) (rest.map (·.1)) := by rw [hy3]
            rw [hy] at hw
            unfold Light at hw
            simp only [DataW.weights, T.hsl, hbv] at hw
            constructor
            · have := hw _ (List.mem_cons_self ..)
              simp only [List.length_map, hle] at this
              have h2 : len * 112 ≤ (len + rest.length) * 112 := Nat.mul_le_mul_right _ (by omega)
              omega
            · intro i hi
              have hg : elems[i]? = some (elems[i]'(by omega)) := List.getElem?_eq_getElem (by omega)
              refine ((hL i hi).2 _ hg).1 fun n hn => hw n ?_
              refine List.mem_cons_of_mem _ (List.mem_append_left _ (weightsAll_mem _ i _ ?_ n hn))
              rw [List.getElem?_map, hg]
              rfl
          · have hy : y3.1 = .slice (elems.map (·.1)) (rest.map (·.1)) := by rw [hy3]
            rw [hy, Rows.uptoBulk]
            have := sumTo_bulk (elems.map (·.1)) (fun i => (L i).size) (fun i d hd => by
              rw [List.getElem?_map] at hd
              obtain ⟨y, hy1, rfl⟩ := Option.map_eq_some_iff.1 hd
              exact ((hL i (by have := (List.getElem?_eq_some_iff.1 hy1).1; omega)).2 y hy1).2)
            rw [List.length_map, hle] at this
            omega
      have hF : ∃ fa fl fc, v4 = Value.slice fa fl fc ∧ (fl ≤ fc ∧ fc ≤ maxLen) ∧ ∃ q : Nat → ByteArray × V, (∀ i, i < fl → (∃ b o, fa = some ⟨b, o, none⟩ ∧ At w b (o + i * 9) (.string (q i).1 :: (q i).2.cells)) ∧ (q i).1.size ≤ maxLen ∧ (q i).2.In w) ∧
          (Light P tsf y4.1 → fl * 128 ≤ reachBytes ∧ ∀ i, i < fl → (q i).2.Fits) ∧ sumTo fl (fun i => (q i).2.size) ≤ Rows.uptoBulk y4.1 := by
        rcases DataW.trod_slice T.hsf g4 with ⟨h0, -⟩ | ⟨a, len, cap, elems, rest, n', hn', hcs, hy4, hb, hlc, hm, hle, hel, -, -⟩
        · simp at h0
          exact ⟨none, 0, 0, h0, ⟨Nat.le_refl _, by decide⟩, fun _ => (⟨#[]⟩, .leaf), fun i hi => absurd hi (Nat.not_lt_zero _), fun _ => ⟨by simp, fun i hi => absurd hi (Nat.not_lt_zero _)⟩, Nat.zero_le _⟩
        · simp at hcs
          have ha0 : 0 < len → ∃ b o, a = ⟨b, o, none⟩ := fun h0 => by
            have h1 := hel 0 h0
            rw [List.getElem?_eq_getElem (by omega)] at h1
            obtain ⟨cs', hc1, -⟩ := Option.bind_eq_some_iff.1 h1
            obtain ⟨b, o, ha, -, -⟩ := at_of_cells? (by rw [T.cf]; decide) hc1
            exact ⟨b, o, by simpa [Addr.add] using ha⟩
          have : Inhabited (ByteArray × V) := ⟨(⟨#[]⟩, .leaf)⟩
          obtain ⟨q, hq⟩ := choose_lt (n := len) (p := fun i (q : ByteArray × V) => ((∃ b o, some a = some ⟨b, o, none⟩ ∧ At w b (o + i * 9) (.string q.1 :: q.2.cells)) ∧ q.1.size ≤ maxLen ∧ q.2.In w) ∧ ∀ y, elems[i]? = some y → (Light P tf y.1 → q.2.Fits) ∧ q.2.size ≤ Rows.uptoBulk y.1) fun i hi => by
            have h1 := hel i hi
            rw [List.getElem?_eq_getElem (by omega)] at h1
            obtain ⟨cs', hc1, hc2⟩ := Option.bind_eq_some_iff.1 h1
            rw [T.cf] at hc1
            obtain ⟨xs', m', hn2, hxe, hl', hlen', hf'⟩ := DataW.trod_struct T.hf hc2
            rw [T.cf] at hl'
            obtain ⟨b, o, rfl⟩ := ha0 (by omega)
            rw [add_plain] at hc1
            obtain ⟨b', o', ha, hat, -⟩ := at_of_cells? (by decide) hc1
            simp only [Addr.mk.injEq, and_true] at ha
            obtain ⟨h1, h2⟩ := ha
            subst h1 h2
            match xs', hlen', cs', hl' with
            | [z0, z1], _, c0 :: cr, hl'' =>
              have e0 := hf' 0 T.g0 rfl
              have e1 := hf' 1 T.g1 rfl
              rw [T.s0.2.2, T.s0.2.1] at e0
              rw [T.s1.2.2, T.s1.2.1, T.s1.1] at e1
              simp at e0 e1
              simp at hl''
              rw [List.take_of_length_le (by omega)] at e1
              obtain ⟨nm, hnm, -, wnm⟩ := DataW.trod_string T.s0.1 e0
              simp at hnm
              subst hnm
              obtain ⟨v, rfl, hv, hv2⟩ := ih m' (by omega) cr _ e1
              refine ⟨(nm, v), ⟨⟨b, o, rfl, hat⟩, wnm, hv⟩, fun y hy => ?_⟩
              rw [List.getElem?_eq_getElem (by omega)] at hy
              rw [← Option.some.inj hy, hxe]
              refine ⟨fun hw => hv2.1 fun n hn => hw n ?_, Nat.le_trans hv2.2 ?_⟩
              · simp only [DataW.weights, T.hf, List.map_cons, List.map_nil, DataW.weightsEach, T.s1.1, List.mem_append]
                exact .inr (.inl hn)
              · simp only [List.map_cons, List.map_nil, Rows.uptoBulk, Rows.uptoBulkAll]
                omega
          refine ⟨some a, len, cap, hcs, ⟨hlc, hm⟩, q, fun i hi => (hq i hi).1, fun hw => ?_, ?_⟩
          · have hy : y4.1 = .slice (elems.map (·.1)) (rest.map (·.1)) := by rw [hy4]
            rw [hy] at hw
            unfold Light at hw
            simp only [DataW.weights, T.hsf, hbf] at hw
            constructor
            · have := hw _ (List.mem_cons_self ..)
              simp only [List.length_map, hle] at this
              have h2 : len * 128 ≤ (len + rest.length) * 128 := Nat.mul_le_mul_right _ (by omega)
              omega
            · intro i hi
              have hg : elems[i]? = some (elems[i]'(by omega)) := List.getElem?_eq_getElem (by omega)
              refine ((hq i hi).2 _ hg).1 fun n hn => hw n ?_
              refine List.mem_cons_of_mem _ (List.mem_append_left _ (weightsAll_mem _ i _ ?_ n hn))
              rw [List.getElem?_map, hg]
              rfl
          · have hy : y4.1 = .slice (elems.map (·.1)) (rest.map (·.1)) := by rw [hy4]
            rw [hy, Rows.uptoBulk]
            have := sumTo_bulk (elems.map (·.1)) (fun i => (q i).2.size) (fun i d hd => by
              rw [List.getElem?_map] at hd
              obtain ⟨y, hy1, rfl⟩ := Option.map_eq_some_iff.1 hd
              exact ((hq i (by have := (List.getElem?_eq_some_iff.1 hy1).1; omega)).2 y hy1).2)
            rw [List.length_map, hle] at this
            omega
      obtain ⟨la, ll, lc, rfl, hlr, L, hL, hL2, hL3⟩ := hL
      obtain ⟨fa, fl, fc, rfl, hfr, q, hF, hF2, hF3⟩ := hF
      refine ⟨.mk k n s la ll lc L fa fl fc (fun i => (q i).1) (fun i => (q i).2) e key hk, rfl, ⟨wf_u8 wk, wf_i64 wn, ws, wf_u8 we, wkey, hlr, hfr, hL, hF⟩, fun hw => ?_, ?_⟩
      · unfold Light at hw
        simp only [DataW.weights, T.hv, List.map_cons, List.map_nil, DataW.weightsEach, List.mem_append] at hw
        obtain ⟨a1, a2⟩ := hL2 fun n hn => hw n (.inr (.inr (.inr (.inl (by rw [T.t3.1]; exact hn)))))
        obtain ⟨b1, b2⟩ := hF2 fun n hn => hw n (.inr (.inr (.inr (.inr (.inl (by rw [T.t4.1]; exact hn))))))
        unfold reachBytes at a1 b1
        exact ⟨a1, b1, a2, b2⟩
      · simp only [V.size, List.map_cons, List.map_nil, Rows.uptoBulk, Rows.uptoBulkAll]
        omega
end
set_option maxRecDepth 100000 in
theorem open_list {H : Type} {enc : TypeId × Value → H} {W : World} {base : Nat} {v : Value} {d : DataW H} {p : List MemPlace} (hv : Value.okWide Tryz.prog W .any base 22 v)
    (h : DataW.Trod enc Tryz.prog W 0 (fun _ => true) true 22 v d p) : ∃ la ll lc L, v = .slice la ll lc ∧ Vals W la ll lc L ∧ sumTo ll (fun i => (L i).size) ≤ Rows.uptoBulk d := by
  have T : VTypes Tryz.prog 30 22 27 78 :=
    { tk := 0, tn := 0, ts := 0, te := 0, tb := 0, tfv := 0, tfn := 0, f0 := _, f1 := _, f2 := _, f3 := _, f4 := _, f5 := _, f6 := _, f7 := _, g0 := _, g1 := _,
      hv := Tryz.underlying30, cv := by kernel_rfl, hsl := Tryz.underlying22, hsf := Tryz.underlying27, hf := Tryz.underlying78, cf := by kernel_rfl,
      t0 := ⟨by kernel_rfl, by kernel_rfl, rfl⟩, t1 := ⟨by kernel_rfl, by kernel_rfl, rfl⟩, t2 := ⟨by kernel_rfl, by kernel_rfl, rfl⟩, t3 := ⟨rfl, by kernel_rfl, rfl⟩, t4 := ⟨rfl, by kernel_rfl, rfl⟩,
      t5 := ⟨by kernel_rfl, by kernel_rfl, rfl⟩, t6 := ⟨by kernel_rfl, by kernel_rfl, rfl⟩, t7 := ⟨by kernel_rfl, by kernel_rfl, rfl⟩, s0 := ⟨by kernel_rfl, by kernel_rfl, rfl⟩, s1 := ⟨rfl, by kernel_rfl, rfl⟩ }
  obtain ⟨aa, len2, cap2, rfl⟩ := okWide_slice T.hsl hv
  obtain ⟨fuel, hf⟩ := h
  simp only [Value.cells] at hf
  rcases DataW.trod_slice T.hsl hf with ⟨h0, -⟩ | ⟨a, len, cap, elems, rest, n', hn', hcs, hyd, hb, hlc, hm, hle, hel, -, -⟩
  · simp at h0
    obtain ⟨rfl, rfl, rfl⟩ := h0
    exact ⟨none, 0, 0, fun _ => .leaf, rfl, ⟨⟨Nat.le_refl _, by decide⟩, fun i hi => absurd hi (Nat.not_lt_zero _)⟩, Nat.zero_le _⟩
  · simp at hcs
    obtain ⟨rfl, rfl, rfl⟩ := hcs
    have ha0 : 0 < len2 → ∃ b o, a = ⟨b, o, none⟩ := fun h0 => by
      have h1 := hel 0 h0
      rw [List.getElem?_eq_getElem (by omega)] at h1
      obtain ⟨cs', hc1, -⟩ := Option.bind_eq_some_iff.1 h1
      obtain ⟨b, o, ha, -, -⟩ := at_of_cells? (by rw [T.cv]; decide) hc1
      exact ⟨b, o, by simpa [Addr.add] using ha⟩
    obtain ⟨L, hL⟩ := choose_lt (n := len2) (p := fun i (v : V) => ((∃ b o, some a = some ⟨b, o, none⟩ ∧ At W b (o + i * 8) v.cells) ∧ v.In W) ∧ ∀ y, elems[i]? = some y → (Light Tryz.prog 30 y.1 → v.Fits) ∧ v.size ≤ Rows.uptoBulk y.1) fun i hi => by
      have h1 := hel i hi
      rw [List.getElem?_eq_getElem (by omega)] at h1
      obtain ⟨cs', hc1, hc2⟩ := Option.bind_eq_some_iff.1 h1
      rw [T.cv] at hc1
      obtain ⟨v, rfl, hvin, hv2⟩ := open_V2 T (by kernel_rfl) (by kernel_rfl) n' cs' _ hc2
      obtain ⟨b, o, rfl⟩ := ha0 (by omega)
      rw [add_plain] at hc1
      obtain ⟨b', o', ha, hat, -⟩ := at_of_cells? (by decide) hc1
      simp only [Addr.mk.injEq, and_true] at ha
      obtain ⟨h1, h2⟩ := ha
      subst h1 h2
      refine ⟨v, ⟨⟨b, o, rfl, hat⟩, hvin⟩, fun y hy => ?_⟩
      rw [List.getElem?_eq_getElem (by omega)] at hy
      rw [← Option.some.inj hy]
      exact hv2
    have hd : d = .slice (elems.map (·.1)) (rest.map (·.1)) := congrArg Prod.fst hyd
    refine ⟨some a, len2, cap2, L, rfl, ⟨⟨hlc, hm⟩, fun i hi => (hL i hi).1⟩, ?_⟩
    · rw [hd, Rows.uptoBulk]
      have := sumTo_bulk (elems.map (·.1)) (fun i => (L i).size) (fun i d hd => by
        rw [List.getElem?_map] at hd
        obtain ⟨y, hy1, rfl⟩ := Option.map_eq_some_iff.1 hd
        exact ((hL i (by have := (List.getElem?_eq_some_iff.1 hy1).1; omega)).2 y hy1).2)
      rw [List.length_map, hle] at this
      omega
def od_zero : Array Value := #[.string ⟨#[]⟩, .slice none 0 0]
theorem od_reads (os : Os) {H : Type} (enc : TypeId × Value → H) : ∃ places, DataW.whole enc Tryz.prog ((laidWorld os).forCall (fun _ _ => 0) ⟨#[], od_zero, []⟩).memory Tryz.f3.params.toList Rows.operDoesSpec.vars false od_zero.toList 8 = some ([.lit (.string []), .nil], [], places) :=
  ⟨[], by kernel_rfl⟩
set_option maxRecDepth 100000 in
theorem od_contract (H : Type) (enc : TypeId × Value → H) (W : World) (base : Nat) (args : Array Value) (ds gs : List (DataW H)) (before : List MemPlace)
    (hval0 : ∀ (j : Nat) t v, Tryz.f3.params[j]? = some t → args[j]? = some v → Value.okWide Tryz.prog W .any base t v)
    (hW : DataW.Whole enc Tryz.prog Tryz.f3.params.toList Rows.operDoesSpec.vars false W args.toList ds gs before) (ht : Tabs W)
    (hbk : Rows.uptoBulkAll (ds ++ gs) ≤ 1048576)
    (_hwt : (DataW.weightsEach Tryz.prog (Tryz.f3.params.toList ++ (Rows.OpenSpec.upto Rows.operDoesSpec).bare.plain.varTypes Tryz.prog) (ds ++ gs)).all (· ≤ reachBytes) = true) :
    Calls Tryz.prog 3 args W fun e W' => ∃ v, e = .returned v ∧ Rows.operDoesSpec.post enc Tryz.prog Tryz.f3 false true false false W args v W' := by
  have hval := hval0
  have hW' := hW
  obtain ⟨p, q, hA0, hV, rfl, _, _⟩ := hW
  have hA : DataW.TrodAll enc Tryz.prog W 0 (fun _ => true) true Tryz.f3.params.toList args.toList ds p := hA0
  rw [Tryz.params3] at hA hval
  obtain ⟨v0, v1, d0, d1, p0, p1, rfl, rfl, rfl, h0, h1⟩ := trodAll_two hA
  obtain ⟨rfl, rfl⟩ := trodVars_none hV
  obtain ⟨x0, rfl, rfl, rfl, w0⟩ := open_string Tryz.underlying9 (hval 0 9 v0 rfl rfl) h0
  obtain ⟨la, ll, lc, L, hx1, hin1, hbulk⟩ := open_list (hval 1 22 v1 rfl rfl) h1
  clear hA0 hval0 hA
  simp only [List.append_nil, List.nil_append] at hW'
  simp only [List.append_nil, Rows.uptoBulkAll, Nat.add_zero] at hbk
  have key := od_any x0 la ll lc L W hin1 ht (by omega)
  rw [← hx1] at key
  refine key.mono fun e W' ⟨he, hb⟩ => ?_
  subst he
  refine ⟨_, rfl, [.lit (.string x0.data.toList), d1], [], p1, [], p1, [], hW', ?_, ?_, rfl, hb.frame _, fun h => by cases h⟩
  · exact trodAll_mk1 (shut_bool Tryz.underlying4 true)
  · have h1' := Below.trod Tryz.laidOut (by kernel_rfl) (of_decide_eq_true (by kernel_rfl)) h1 hb (fun x hx => by simpa using hW'.lt x hx)
    have h2 := trodAll_mk2 (shut_string Tryz.underlying9 w0) h1'
    rw [List.nil_append] at h2
    exact h2
set_option maxRecDepth 100000 in
theorem od_lifted (os : Os) (started : os.Started) (H : Type) (enc : TypeId × Value → H) (F : Stop.Interp) :
    ReturnsInHanded {} Tryz.checked os 3 .any ((Rows.OpenSpec.upto Rows.operDoesSpec).preRow enc Tryz.prog Tryz.f3 Rows.operDoesUptoRow.domain false Rows.operDoesUptoRow.laid) (((Rows.OpenSpec.upto Rows.operDoesSpec).at F).post enc Tryz.prog Tryz.f3 false true false false) := by
  obtain ⟨places, hx⟩ := od_reads os enc
  refine returnsInHanded_of_row (C := Tryz.checked) (s := Rows.OpenSpec.upto Rows.operDoesSpec) Tryz.own started (by kernel_rfl) Tryz.func3
    (witness_row_at (enc := enc) (C := Tryz.checked) false (laidWorld os) od_zero rfl (by kernel_rfl) (by kernel_rfl) (by kernel_rfl)
      (OpenSpec.preRow_of_cond 8 hx (by kernel_rfl) (fun k hk => by cases hk; kernel_rfl) (by kernel_rfl) (laid_met os _))) ?_
  intro W base args ds gs before hval hW _ hc hwt hL _ _
  exact od_contract H enc W base args ds gs before hval hW (tabs_of_laid rfl hL) (of_decide_eq_true (hc _ rfl)) hwt
theorem od_said : Rows.OperDoesUptoSaid :=
  OpenClaim.holds_of_cond 3 Tryz.f3 rfl rfl rfl rfl rfl rfl rfl ⟨rfl, rfl, rfl, rfl, rfl⟩ rfl rfl rfl rfl rfl (by kernel_rfl) Tryz.func3 (by kernel_rfl)
    (of_decide_eq_true (by kernel_rfl)) (by unfold Func.isWrapper; first | (rw [if_pos (by decide +kernel)]; kernel_rfl) | (rw [if_neg (by decide +kernel)]; exact ⟨rfl, rfl⟩))
    (fun os started H enc _ F => by rw [OpenClaim.pre_eq_preRow]; exact od_lifted os started H enc F)
theorem od_plain (f : FuncId) (fn : Func) (hf : Tryz.pinned.checked.prog.funcNamed "tapestry/tapestrylaw02.OperDoes" = some f) (hfn : Tryz.pinned.checked.prog.funcs[f]? = some fn) :
    false = Tryz.pinned.checked.prog.looks [] ∧ ∀ (j : Nat) t, fn.params[j]? = some t → Tryz.pinned.checked.prog.wantsStandIn t = false := by
  obtain rfl : f = 3 := Option.some.inj ((show Tryz.prog.funcNamed "tapestry/tapestrylaw02.OperDoes" = some 3 by kernel_rfl).symm.trans hf) |>.symm
  obtain rfl : fn = Tryz.f3 := (Option.some.inj (Tryz.func3.symm.trans hfn)).symm
  refine ⟨by kernel_rfl, fun j t ht => ?_⟩
  rw [Tryz.params3] at ht
  have hm := Array.mem_of_getElem? ht
  simp at hm
  rcases hm with rfl | rfl
  · exact (show Tryz.prog.wantsStandIn 9 = false by kernel_rfl)
  · exact (show Tryz.prog.wantsStandIn 22 = false by kernel_rfl)
theorem od_card : Rows.OperDoesUptoCardSaid :=
  Claim7.holds_tied_plain_at .later [] _ _ _ _ od_said (fun _ h => by cases h) (by kernel_rfl) (fun _ h => by cases h) operDoesUpto_row_tie rfl ⟨rfl, rfl⟩ (by kernel_rfl) rfl od_plain (by kernel_rfl)
#print axioms od_card
end Go.Proofs.YtmhemajcnfcdmaaGreatDoor
