/-
  Plain: lists of nodes of one content are the same; few of them, if what is told is short. The document that the laws' first answers are about.
  Conditions: none.
  Walks: Bare as nodes of its own ('bare_nodes'); Read of the laws' two texts.
  Conditions: the nodes lie in memory; the tables hold what the program's text lays in them.
-/
import Derived.Test.YtajmdhcknmmbbaaGreatDoorShRd
import Derived.Test.YtajmdhcknmmbbaaGreatDoorSMf
namespace Go.Proofs.YtajmdhcknmmbbaaGreatDoor.Sh
set_option linter.unusedVariables false
set_option linter.unusedSimpArgs false
open Go.Proofs.YtajmdhcknmmbbaaGreatDoor Go.RowKit

theorem list_same {n n2 : Nat} {K K2 : Nat → N} (h1 : ∀ i, i < n → (K i).may = true ∧ (K i).zero) (h2 : ∀ i, i < n2 → (K2 i).may = true ∧ (K2 i).zero) (h : conTo n (fun i => (K i).con) .nil = conTo n2 (fun i => (K2 i).con) .nil) : (decide (n = n2) && allB n (fun i => (K i).same (K2 i))) = true := by
  have hn : n = n2 := by
    have := congrArg D.len h
    rwa [conTo_len K n _ (fun i hi => (h1 i hi).1), conTo_len K2 n2 _ (fun i hi => (h2 i hi).1)] at this
  subst hn
  rw [decide_eq_true rfl, Bool.true_and, allB_true]
  intro i hi
  obtain ⟨d, hd⟩ := (con_each K K2 n .nil .nil (fun i hi => (h1 i hi).1) (fun i hi => (h2 i hi).1) h rfl).1 i hi
  exact same_con _ _ d (h1 i hi).1 (h2 i hi).1 (h1 i hi).2 (h2 i hi).2 hd
theorem sepTo_ge (f : Nat → List UInt8) : ∀ (n : Nat), (∀ i, i < n → 1 ≤ (f i).length) → n ≤ (sepTo n f).length ∧ ∀ i, i < n → (f i).length ≤ (sepTo n f).length
  | 0, _ => ⟨Nat.zero_le _, fun i hi => by omega⟩
  | n + 1, h => by
    obtain ⟨a, b⟩ := sepTo_ge f n fun i hi => h i (by omega)
    have := h n (by omega)
    rw [sepTo]
    simp only [List.length_append]
    refine ⟨by omega, fun i hi => ?_⟩
    rcases Nat.lt_or_ge i n with h1 | h1
    · have := b i h1; omega
    · obtain rfl : i = n := by omega
      omega
theorem few_of : ∀ (n : N), n.may = true → n.tx.length ≤ 1073741824 → n.few := by
  intro n
  induction n with
  | leaf => intro h; cases h
  | mk id tag text aa al ac an A ka kl kc K ih =>
    intro h hl
    simp only [N.may, Bool.and_eq_true, Bool.or_eq_true] at h
    have hk := fun i (hi : i < kl) => allB_true.1 h.2 i hi
    by_cases ht : (tag.toList == []) = true
    · have p1 : al = 0 ∧ kl = 0 := by
        rcases h.1 with q | q
        · simp only [textB, Bool.and_eq_true, decide_eq_true_eq] at q; exact q.2.2
        · simp [hostB, nameB, ht] at q
      obtain ⟨rfl, rfl⟩ := p1
      exact ⟨by decide, by decide, fun i hi => by omega⟩
    · simp only [N.tx, ht, Bool.false_eq_true, if_false, List.length_cons, List.length_append, List.length_nil] at hl
      have a := sepTo_ge (aTx an A) al fun i hi => by simp only [aTx, List.length_append, List.length_cons]; omega
      have b := sepTo_ge (fun i => (K i).tx) kl fun i hi => List.length_pos_iff.2 (tx_ne (hk i hi))
      exact ⟨by omega, by omega, fun i hi => ih i (hk i hi) (by have := b.2 i hi; omega)⟩
theorem few_list {n : Nat} {K : Nat → N} (h : ∀ i, i < n → (K i).may = true) (hl : (sepTo n (fun i => (K i).tx)).length ≤ 1073741824) : n ≤ 1073741824 ∧ ∀ i, i < n → (K i).may = true ∧ (K i).few := by
  have b := sepTo_ge (fun i => (K i).tx) n fun i hi => List.length_pos_iff.2 (tx_ne (h i hi))
  exact ⟨by omega, fun i hi => ⟨h i hi, few_of _ (h i hi) (by have := b.2 i hi; omega)⟩⟩

/-! ### A document -/
def docD : D := .host [100, 105, 118] [([105, 100], .num 5)] (.txt [104, 105] .nil) (.txt [120] .nil)
def docS : List UInt8 := [40, 34, 100, 105, 118, 34, 32, 123, 34, 105, 100, 34, 32, 53, 125, 32, 91, 34, 104, 105, 34, 93, 41, 32, 34, 120, 34]
theorem itoa5 : Lib.itoa 5 = [53] := by
  rw [Lib.itoa, if_neg (by decide), Lib.decDigits, dif_pos (by decide)]; rfl
theorem docTx : docD.tx true = docS := by
  simp only [docD, D.tx, attrsT, PV.tx, itoa5, sep, quoteT, esc, docS]
  rfl
theorem docFine : docD.fine := ⟨by decide, fun x hx => by simp at hx; subst hx; exact ⟨by decide, by decide⟩, trivial, trivial⟩
theorem docRd : rdR docS = some (docD, []) := by
  have := rd_back docD true [] docFine rfl
  rwa [List.append_nil, docTx] at this
theorem nameB_eq (s : ByteArray) : nameB s = (!(s.data.toList == []) && decide (s.size ≤ 4096)) := by rw [nameB, Lib.toList_data]
theorem vp_num (n : Int) : V.pv (vp (.num n)) = some (.num n) := by
  have hc : (vz 1 n ⟨[].toArray⟩).check = true := by
    rw [check_iff]
    simp [vz, V.shaped, shapeB, inRowB, inLimB, risingB, allB, emptyB, V.size, V.depth, sumTo, maxTo]
    exact ⟨rfl, by decide⟩
  show V.pv (vz 1 n ⟨[].toArray⟩) = _
  rw [vz] at hc ⊢
  rw [V.pv, if_pos hc, if_pos rfl]
theorem docGood : docD.good := by
  refine ⟨by rw [nameB_eq]; rfl, fun i hi => ?_, ⟨by decide, trivial⟩, by decide, trivial⟩
  have : i = 0 := by simp at hi; exact hi
  subst this
  show (nameB ⟨#[105, 100]⟩ && (!notUp _ 0 && (V.pv (vp (.num 5))).isSome)) = true
  rw [nameB_eq, vp_num]
  rfl
theorem docNorm : docD.norm = docD := rfl
def badS : List UInt8 := [40, 34, 112, 34, 32, 123, 125, 32, 91, 34, 97, 34, 32, 32, 34, 98, 34, 93, 41]
def badD : D := .host [112] [] (.txt [97] (.txt [98] .nil)) .nil
theorem badRd : ∀ d r, rdR badS = some (d, r) → d.norm.tx true ≠ badS := by
  intro d r h
  have e : rdR badS = none := by rfl
  rw [e] at h
  cases h
end Go.Proofs.YtajmdhcknmmbbaaGreatDoor.Sh
namespace Go.Proofs.YtajmdhcknmmbbaaGreatDoor.Sh
set_option linter.unusedVariables false
set_option linter.unusedSimpArgs false
open Go.Proofs.YtajmdhcknmmbbaaGreatDoor Go.RowKit

theorem vp_some {v : V} {p : PV} (h : V.pv v = some p) : V.pv (vp p) = some p := by
  cases v with
  | leaf => cases h
  | mk k n s la ll lc L fa fl fc fn F e key hk =>
    obtain ⟨a1, a2, a3, a4, a5, a6, a7, a8⟩ := pv_parts h
    subst a1 a2 a3 a4 a5 a6 a7 a8
    have hc : (V.mk p.k p.n ⟨p.s.toArray⟩ la 0 lc L fa 0 fc fn F 0 ⟨#[]⟩ false).check = true := by
      rw [V.pv] at h
      split at h
      · rename_i hc; exact hc
      · cases h
    have hc2 : (vp p).check = true := by
      rw [check_iff] at hc ⊢
      rw [vp, vz]
      cases p <;> simpa [V.shaped, shapeB, inRowB, risingB, allB, V.size, V.depth, sumTo, maxTo, PV.k] using hc
    rw [vp, vz] at hc2 ⊢
    rw [V.pv, if_pos hc2]
    rw [V.pv, if_pos hc] at h
    exact h
theorem ba_self (b : ByteArray) : (⟨b.data.toList.toArray⟩ : ByteArray) = b := ba_ext (by simp)
theorem pv_sane {v : V} {p : PV} {w : World} (h : V.pv v = some p) (hin : v.In w) : p.sane := by
  cases v with
  | leaf => cases h
  | mk k n s la ll lc L fa fl fc fn F e key hk =>
    obtain ⟨a1, a2, a3, -⟩ := pv_parts h
    cases p with
    | num m =>
      have := hin.2.1
      rw [a2] at this
      exact this
    | tru b => trivial
    | txt t =>
      have := hin.2.2.1
      rw [a3] at this
      rw [ba_size] at this
      exact this
theorem con_good : ∀ (n : N) {w : World}, n.In w → n.may = true → ∀ d : D, d.good → d.sane → (n.con d).good ∧ (n.con d).sane := by
  intro n
  induction n with
  | leaf => intro w h; exact h.elim
  | mk id tag text aa al ac an A ka kl kc K ih =>
    intro w hin hm d hg hs
    obtain ⟨-, q2, q3, -, -, qA, qK⟩ := hin
    simp only [N.may, Bool.and_eq_true, Bool.or_eq_true] at hm
    have hk := fun i (hi : i < kl) => allB_true.1 hm.2 i hi
    have hlist : ∀ m, m ≤ kl → ∀ e : D, e.good → e.sane → (conTo m (fun i => (K i).con) e).good ∧ (conTo m (fun i => (K i).con) e).sane := by
      intro m
      induction m with
      | zero => intro _ e h1 h2; exact ⟨h1, h2⟩
      | succ m im =>
        intro hmk e h1 h2
        obtain ⟨a, b⟩ := ih m (qK m (by omega)).2 (hk m (by omega)) e h1 h2
        exact im (by omega) _ a b
    have hkk := hlist kl (Nat.le_refl _) .nil trivial trivial
    simp only [N.con]
    split
    · rename_i ht
      have p1 : text.size ≤ 4096 := by
        rcases hm.1 with q | q
        · simp only [textB, Bool.and_eq_true, decide_eq_true_eq] at q; exact q.2.1
        · simp [hostB, nameB, ht] at q
      exact ⟨⟨by simpa using p1, hg⟩, by simpa using q3, hs⟩
    · rename_i ht
      have hh : hostB tag text al an A = true := by
        rcases hm.1 with q | q
        · simp [textB, ht] at q
        · exact q
      simp only [hostB, Bool.and_eq_true] at hh
      have hA := allB_true.1 hh.2.2
      obtain ⟨l1, l2⟩ := aL_get (an := an) (A := A) al
      have hget : ∀ i, i < al → (aL al an A).getD i ([], .num 0) = ((an i).data.toList, (V.pv (A i)).getD (.num 0)) := fun i hi => by
        rw [List.getD_eq_getElem?_getD, l2 i hi]; rfl
      have hpv : ∀ i, i < al → ∃ p, V.pv (A i) = some p := fun i hi => by
        have := hA i hi
        simp only [aOk, Bool.and_eq_true] at this
        exact Option.isSome_iff_exists.1 this.2.2
      refine ⟨⟨by rw [ba_self]; exact hh.1, fun i hi => ?_, hkk.1, hg⟩, by simpa using q2, fun x hx => ?_, hkk.2, hs⟩
      · rw [l1] at hi
        have ho := hA i hi
        obtain ⟨p, hp⟩ := hpv i hi
        have hnu : notUp (fun i => ⟨((aL al an A).getD i ([], .num 0)).1.toArray⟩) i = notUp an i := by
          cases i with
          | zero => rfl
          | succ j =>
            show bLe _ _ = bLe _ _
            dsimp only
            rw [hget (j + 1) hi, hget j (by omega), ba_self, ba_self]
        simp only [aOk, Bool.and_eq_true] at ho ⊢
        refine ⟨?_, ?_, ?_⟩
        · rw [hget i hi, ba_self]; exact ho.1
        · rw [hnu]; exact ho.2.1
        · rw [hget i hi, hp, Option.getD_some, vp_some hp]; rfl
      · obtain ⟨i, hi, hix⟩ := List.getElem_of_mem hx
        rw [l1] at hi
        have h2 := l2 i hi
        rw [List.getElem?_eq_getElem (by rw [l1]; exact hi), hix] at h2
        injection h2 with h2
        obtain ⟨p, hp⟩ := hpv i hi
        rw [h2]
        exact ⟨by simpa using (qA i hi).2.1, by rw [hp]; exact pv_sane hp (qA i hi).2.2⟩
theorem con_list_good {w : World} {a : Option Addr} (K : Nat → N) : ∀ (n : Nat), (∀ i, i < n → (K i).In w ∧ (K i).may = true) → ∀ e : D, e.good → e.sane → (conTo n (fun i => (K i).con) e).good ∧ (conTo n (fun i => (K i).con) e).sane
  | 0, _, e, h1, h2 => ⟨h1, h2⟩
  | n + 1, h, e, h1, h2 => by
    obtain ⟨x, y⟩ := con_good (K n) (h n (by omega)).1 (h n (by omega)).2 e h1 h2
    exact con_list_good (a := a) K n (fun i hi => h i (by omega)) _ x y
theorem con_norm : ∀ (d : D), d.good → d.norm = d := by
  intro d
  induction d with
  | nil => intro _; rfl
  | txt s m ih => intro h; rw [D.norm, ih h.2]
  | host t al k m ihk ihm =>
    intro h
    have : t ≠ [] := fun e => by
      have := h.1
      rw [e, nameB_eq] at this
      exact absurd this (by decide)
    rw [D.norm, if_neg this, ihk h.2.2.1, ihm h.2.2.2]
/-- Nodes that may be, and without numbers, of this content. -/
structure Clean (W : World) (n : Nat) (K : Nat → N) (d : D) (a : Option Addr) (c : Nat) : Prop where
  lc : n ≤ c ∧ c ≤ maxLen
  inn : NsIn W a n K
  may : ∀ i, i < n → (K i).may = true
  zero : ∀ i, i < n → (K i).zero
  con : conTo n (fun i => (K i).con) .nil = d
theorem Clean.below {W W' : World} {n : Nat} {K : Nat → N} {d : D} {a : Option Addr} {c : Nat} (h : Clean W n K d a c) (hb : Below W.heap.size W W') : Clean W' n K d a c := ⟨h.lc, h.inn.below hb, h.may, h.zero, h.con⟩
theorem bare_nodes (a : Option Addr) (n c : Nat) (K : Nat → N) (w : World) (h : NsIn w a n K) (hlc : n ≤ c ∧ c ≤ maxLen) (hm : ∀ i, i < n → (K i).may = true) (hl : (sepTo n (fun i => (K i).tx)).length ≤ 1073741824) :
    Calls Tryz.prog 12 #[.slice a n c] w fun e w' => ∃ a' c' K', e = .returned (.slice a' n c') ∧ Clean w' n K' (conTo n (fun i => (K i).con) .nil) a' c' ∧ Below w.heap.size w w' := by
  obtain ⟨f1, f2⟩ := few_list hm hl
  refine (bare_any a n c K w h hlc f1 f2).mono ?_
  rintro e w' ⟨v, vss, rfl, hlen, hown, hrep, hb⟩
  obtain ⟨g1, g2⟩ := con_list_good (a := a) K n (fun i hi => ⟨(h i hi).2, hm i hi⟩) .nil trivial trivial
  obtain ⟨K', k1, k2, k3⟩ := rep_nodes _ vss hrep g2
  obtain ⟨a', c', rfl, hlc', hns⟩ := ns_of hlen (Sl.of_own hown) k1
  have hmay := k3 g1
  refine ⟨a', c', K', rfl, ⟨hlc', hns, fun i hi => hmay i (by omega), fun i hi => (k1 i (by omega)).2.2, ?_⟩, hb⟩
  have := k2 .nil hmay
  rw [hlen, con_norm _ g1, D.app_nil] at this
  exact this
theorem read_doc (W : World) (ht : Tabs W) (hst : STabs W) : Calls Tryz.prog 20 #[.string ⟨#[40, 34, 100, 105, 118, 34, 32, 123, 34, 105, 100, 34, 32, 53, 125, 32, 91, 34, 104, 105, 34, 93, 41, 32, 34, 120, 34]⟩] W fun e w' => ∃ a c K, e = .returned (.tuple #[.slice a 2 c, .int .i64 0]) ∧ Clean w' 2 K docD a c ∧ Below W.heap.size W w' := by
  refine (read_any _ W (by decide) ht hst).mono ?_
  rintro e w' ⟨hb, ⟨-, h⟩ | ⟨d, r', a, n, c, K, h1, rfl, h2, h3, h4, h5, h6, h7, h8⟩⟩
  · exact absurd ⟨docGood, docTx⟩ (h docD [] docRd)
  · have hd : d = docD := by
      have : rdR docS = some (d, r') := h1
      rw [docRd] at this
      injection this with this
      injection this with this
      exact this.symm
    subst hd
    have hn : n = 2 := h8
    subst hn
    have hm : ∀ i, i < 2 → (K i).may = true := by
      unfold textN at h6
      split at h6
      · rename_i hm; exact allB_true.1 hm
      · exact absurd h6 (by decide)
    have hc := h5 .nil hm
    rw [docNorm, D.app_nil] at hc
    exact ⟨a, c, K, rfl, ⟨h2, h3, hm, h4, hc⟩, hb⟩
theorem read_bad (W : World) (ht : Tabs W) (hst : STabs W) : Calls Tryz.prog 20 #[.string ⟨#[40, 34, 112, 34, 32, 123, 125, 32, 91, 34, 97, 34, 32, 32, 34, 98, 34, 93, 41]⟩] W fun e w' => e = .returned (.tuple #[.slice none 0 0, .int .i64 5]) ∧ Below W.heap.size W w' := by
  refine (read_any _ W (by decide) ht hst).mono ?_
  rintro e w' ⟨hb, ⟨he, -⟩ | ⟨d, r', a, n, c, K, h1, -⟩⟩
  · exact ⟨he, hb⟩
  · have e : rdR badS = none := by rfl
    have h1 : rdR badS = some (d, r') := h1
    rw [e] at h1
    cases h1
end Go.Proofs.YtajmdhcknmmbbaaGreatDoor.Sh
