/-
  Plain: nodes as a reader, or Bare, leaves them in memory are nodes of it ('rep_nodes'); two such of one content are the same ('same_con').
  Conditions: none.
-/
import Derived.Test.YtajmdhcknmmbbaaGreatDoorShU
import Derived.Test.YtajmdhcknmmbbaaGreatDoorShD
import Derived.Test.YtajmdhcknmmbbaaGreatDoorSMd
namespace Go.Proofs.YtajmdhcknmmbbaaGreatDoor.Sh
set_option linter.unusedVariables false
set_option linter.unusedSimpArgs false
open Go.Proofs.YtajmdhcknmmbbaaGreatDoor Go.ChangeShapes Go.WideShapes Go.RowKit Go.Deep

/-- All numbers are 0. -/
def N.zero : N → Prop
  | .leaf => True
  | .mk id _ _ _ _ _ _ _ _ kl _ K => id = 0 ∧ ∀ i, i < kl → (K i).zero
/-- A value that is plain has no parts and no other fields. -/
theorem pv_parts {k n : Int} {s : ByteArray} {la : Option Addr} {ll lc : Nat} {L : Nat → V} {fa : Option Addr} {fl fc : Nat} {fn : Nat → ByteArray} {F : Nat → V} {e : Int} {key : ByteArray} {hk : Bool} {p : PV} (h : V.pv (.mk k n s la ll lc L fa fl fc fn F e key hk) = some p) :
    k = p.k ∧ n = p.n ∧ s = ⟨p.s.toArray⟩ ∧ ll = 0 ∧ fl = 0 ∧ e = 0 ∧ key = ⟨#[]⟩ ∧ hk = false := by
  rw [V.pv] at h
  split at h
  · rename_i hc
    have hs := ((check_iff _).1 hc).1.1
    simp only [shapeB, inRowB, Bool.and_eq_true, Bool.or_eq_true, decide_eq_true_eq, Bool.not_eq_true'] at hs
    obtain ⟨⟨h0, h1, h2, h3, h4, h5, h6, h7⟩, -⟩ := hs
    have emp : ∀ x : ByteArray, emptyB x = true → x = ⟨#[]⟩ := fun x hx => (show x = ByteArray.empty from by simpa [emptyB] using hx)
    split at h
    · rename_i hk1
      subst hk1
      cases h
      simp at h2 h3 h4 h5 h6
      have e5 := h5.2
      subst e5
      simp at h6
      exact ⟨rfl, rfl, emp _ h2, h3, h4, h5.1, emp _ h6, rfl⟩
    · split at h
      · rename_i hk1 hk2
        subst hk2
        cases h
        simp at h2 h3 h4 h5 h6 h7
        have e5 := h5.2
        subst e5
        simp at h6
        refine ⟨rfl, ?_, emp _ h2, h3, h4, h5.1, emp _ h6, rfl⟩
        rcases h7 with h7 | h7 <;> subst h7 <;> rfl
      · split at h
        · rename_i hk1 hk2 hk3
          subst hk3
          cases h
          simp at h1 h3 h4 h5 h6
          have e5 := h5.2
          subst e5
          simp at h6
          exact ⟨rfl, h1, by simp [PV.s], h3, h4, h5.1, emp _ h6, rfl⟩
        · cases h
  · cases h
theorem pv_same {v u : V} {p : PV} (hv : V.pv v = some p) (hu : V.pv u = some p) : v.same u = true := by
  cases v with
  | leaf => cases hv
  | mk k n s la ll lc L fa fl fc fn F e key hk =>
  cases u with
  | leaf => cases hu
  | mk k2 n2 s2 la2 ll2 lc2 L2 fa2 fl2 fc2 fn2 F2 e2 key2 hk2 =>
    obtain ⟨a1, a2, a3, a4, a5, a6, a7, a8⟩ := pv_parts hv
    obtain ⟨b1, b2, b3, b4, b5, b6, b7, b8⟩ := pv_parts hu
    subst a1 a2 a3 a4 a5 a6 a7 a8 b1 b2 b3 b4 b5 b6 b7 b8
    simp [V.same, ownB, allB]
/-- The attributes' list tells each. -/
theorem aL_get {an : Nat → ByteArray} {A : Nat → V} : ∀ (n : Nat), (aL n an A).length = n ∧ ∀ i, i < n → (aL n an A)[i]? = some ((an i).data.toList, (V.pv (A i)).getD (.num 0))
  | 0 => ⟨rfl, fun i hi => by omega⟩
  | n + 1 => by
    obtain ⟨h1, h2⟩ := aL_get (an := an) (A := A) n
    refine ⟨by simp [aL, h1], fun i hi => ?_⟩
    rw [aL]
    rcases Nat.lt_or_ge i n with h | h
    · rw [List.getElem?_append_left (by omega)]; exact h2 i h
    · obtain rfl : i = n := by omega
      rw [List.getElem?_append_right (by omega), h1]; simp
theorem ba_ext {a b : ByteArray} (h : a.data.toList = b.data.toList) : a = b := by
  apply ByteArray.ext; apply Array.ext'; exact h
theorem fs_same {al al2 : Nat} {an an2 : Nat → ByteArray} {A A2 : Nat → V} (h : ∀ i, i < al → aOk an A i = true) (h2 : ∀ i, i < al2 → aOk an2 A2 i = true) (he : aL al an A = aL al2 an2 A2) : fsB al an A al2 an2 A2 = true := by
  obtain ⟨e1, g1⟩ := aL_get (an := an) (A := A) al
  obtain ⟨e2, g2⟩ := aL_get (an := an2) (A := A2) al2
  have hl : al = al2 := by rw [← e1, ← e2, he]
  subst hl
  rw [fsB, decide_eq_true rfl, Bool.true_and, allB_true]
  intro i hi
  have a := g1 i hi
  have b := g2 i hi
  rw [he, b] at a
  have ho := h i hi
  have ho2 := h2 i hi
  simp only [aOk, Bool.and_eq_true] at ho ho2
  obtain ⟨p, hp⟩ := Option.isSome_iff_exists.1 ho.2.2
  obtain ⟨p2, hp2⟩ := Option.isSome_iff_exists.1 ho2.2.2
  rw [hp, hp2] at a
  simp only [Option.some.injEq, Prod.mk.injEq, Option.getD_some] at a
  obtain ⟨x1, x2⟩ := a
  subst x2
  rw [ba_ext x1, pv_same hp hp2]
  simp
/-- The parts of what is told by one behind the other. -/
theorem con_ne (n : N) (hm : n.may = true) (d : D) : n.con d ≠ .nil := by
  cases n with
  | leaf => cases hm
  | mk id tag text aa al ac an A ka kl kc K => simp only [N.con]; split <;> exact fun h => by cases h
/-- A node's own part of what its content is, and what stands behind it. -/
def D.tail : D → D
  | .nil => .nil
  | .txt _ m => m
  | .host _ _ _ m => m
theorem con_tail (n : N) (hm : n.may = true) (d : D) : (n.con d).tail = d := by
  cases n with
  | leaf => cases hm
  | mk id tag text aa al ac an A ka kl kc K => simp only [N.con]; split <;> rfl
def D.len : D → Nat
  | .nil => 0
  | .txt _ m => m.len + 1
  | .host _ _ _ m => m.len + 1
theorem con_len (n : N) (hm : n.may = true) (d : D) : (n.con d).len = d.len + 1 := by
  cases n with
  | leaf => cases hm
  | mk id tag text aa al ac an A ka kl kc K => simp only [N.con]; split <;> rfl
theorem conTo_len (K : Nat → N) : ∀ (n : Nat) (e : D), (∀ i, i < n → (K i).may = true) → (conTo n (fun i => (K i).con) e).len = n + e.len
  | 0, e, _ => by simp [conTo]
  | n + 1, e, h => by rw [conTo, conTo_len K n _ (fun i hi => h i (by omega)), con_len _ (h n (by omega))]; omega
/-- Lists of one content are alike, node by node: from the end on. -/
theorem con_each (K K2 : Nat → N) : ∀ (n : Nat) (e e2 : D), (∀ i, i < n → (K i).may = true) → (∀ i, i < n → (K2 i).may = true) → conTo n (fun i => (K i).con) e = conTo n (fun i => (K2 i).con) e2 → e.len = e2.len → (∀ i, i < n → ∃ d, (K i).con d = (K2 i).con d) ∧ e = e2 := by
  intro n
  induction n with
  | zero => intro e e2 _ _ h _; exact ⟨fun i hi => by omega, h⟩
  | succ n ih =>
    intro e e2 h1 h2 h hl
    obtain ⟨g1, g2⟩ := ih ((K n).con e) ((K2 n).con e2) (fun i hi => h1 i (by omega)) (fun i hi => h2 i (by omega)) h (by rw [con_len _ (h1 n (by omega)), con_len _ (h2 n (by omega)), hl])
    have he : e = e2 := by
      have := congrArg D.tail g2
      rwa [con_tail _ (h1 n (by omega)), con_tail _ (h2 n (by omega))] at this
    refine ⟨fun i hi => ?_, he⟩
    rcases Nat.lt_or_ge i n with h3 | h3
    · exact g1 i h3
    · obtain rfl : i = n := by omega
      exact ⟨e, by rw [g2, he]⟩
theorem same_con : ∀ (x y : N) (d : D), x.may = true → y.may = true → x.zero → y.zero → x.con d = y.con d → x.same y = true := by
  intro x
  induction x with
  | leaf => intro y d h; cases h
  | mk id tag text aa al ac an A ka kl kc K ih =>
    intro y d hx hy zx zy h
    cases y with
    | leaf => cases hy
    | mk id2 tag2 text2 aa2 al2 ac2 an2 A2 ka2 kl2 kc2 K2 =>
    obtain ⟨z1, z2⟩ := zx
    obtain ⟨y1, y2⟩ := zy
    subst z1 y1
    simp only [N.may, Bool.and_eq_true, Bool.or_eq_true] at hx hy
    have hxk := fun i (hi : i < kl) => allB_true.1 hx.2 i hi
    have hyk := fun i (hi : i < kl2) => allB_true.1 hy.2 i hi
    simp only [N.con] at h
    have emp : ∀ b : ByteArray, (b.toList == []) = true → b = ⟨#[]⟩ := fun b hb => by
      rw [Lib.toList_data] at hb
      exact ba_ext (by simpa using hb)
    split at h
    · rename_i t1
      split at h
      · rename_i t2
        simp only [D.txt.injEq, and_true] at h
        rw [emp _ t1, emp _ t2, ba_ext h]
        have p1 : al = 0 ∧ kl = 0 := by
          rcases hx.1 with q | q
          · simp only [textB, Bool.and_eq_true, decide_eq_true_eq] at q; exact q.2.2
          · simp [hostB, nameB, t1] at q
        have p2 : al2 = 0 ∧ kl2 = 0 := by
          rcases hy.1 with q | q
          · simp only [textB, Bool.and_eq_true, decide_eq_true_eq] at q; exact q.2.2
          · simp [hostB, nameB, t2] at q
        obtain ⟨rfl, rfl⟩ := p1
        obtain ⟨rfl, rfl⟩ := p2
        simp [N.same, fsB, allB]
      · cases h
    · rename_i t1
      split at h
      · cases h
      · rename_i t2
        simp only [D.host.injEq, and_true] at h
        obtain ⟨e1, e2, e3⟩ := h
        have q1 : hostB tag text al an A = true := by
          rcases hx.1 with q | q
          · simp [textB, t1] at q
          · exact q
        have q2 : hostB tag2 text2 al2 an2 A2 = true := by
          rcases hy.1 with q | q
          · simp [textB, t2] at q
          · exact q
        simp only [hostB, Bool.and_eq_true] at q1 q2
        have hkl : kl = kl2 := by
          have := congrArg D.len e3
          rwa [conTo_len K kl _ hxk, conTo_len K2 kl2 _ hyk] at this
        subst hkl
        have hk := (con_each K K2 kl .nil .nil hxk hyk e3 rfl).1
        rw [ba_ext e1, emp _ q1.2.1, emp _ q2.2.1]
        have hf := fs_same (allB_true.1 q1.2.2) (allB_true.1 q2.2.2) e2
        simp only [N.same, hf, decide_true, Bool.true_and]
        rw [allB_true]
        intro i hi
        obtain ⟨d', hd⟩ := hk i hi
        exact ih i (K2 i) d' (hxk i hi) (hyk i hi) (z2 i hi) (y2 i hi) hd

/-! ### What was read, or bared, as nodes -/
def PV.sane : PV → Prop
  | .num n => -9223372036854775808 ≤ n ∧ n ≤ 9223372036854775807
  | .tru _ => True
  | .txt s => s.length ≤ maxLen
def D.sane : D → Prop
  | .nil => True
  | .txt s m => s.length ≤ maxLen ∧ m.sane
  | .host t a k m => t.length ≤ maxLen ∧ (∀ x ∈ a, x.1.length ≤ maxLen ∧ x.2.sane) ∧ k.sane ∧ m.sane
/-- Hosts without a name are texts. -/
def D.norm : D → D
  | .nil => .nil
  | .txt s m => .txt s m.norm
  | .host t a k m => if t = [] then .txt [] m.norm else .host t a k.norm m.norm
def vp (p : PV) : V := vz p.k p.n ⟨p.s.toArray⟩
theorem vp_cells (p : PV) : (vp p).cells = p.cells := rfl
theorem vp_in {W : World} {p : PV} (h : p.sane) : (vp p).In W := by
  cases p with
  | num n => exact vz_in W ⟨by show (0:Int) ≤ 1; decide, by show (1:Int) ≤ 255; decide⟩ h (by show (0 : Nat) ≤ maxLen; exact Nat.zero_le _)
  | tru b => cases b <;> exact vz_in W ⟨by show (0:Int) ≤ 2; decide, by show (2:Int) ≤ 255; decide⟩ ⟨by decide, by decide⟩ (by show (0 : Nat) ≤ maxLen; exact Nat.zero_le _)
  | txt s => exact vz_in W ⟨by show (0:Int) ≤ 3; decide, by show (3:Int) ≤ 255; decide⟩ ⟨by show (-9223372036854775808 : Int) ≤ 0; decide, by show (0 : Int) ≤ 9223372036854775807; decide⟩ (by show (⟨s.toArray⟩ : ByteArray).size ≤ maxLen; rw [ba_size]; exact h)
theorem vp_pv {p q : PV} (h : V.pv (vp p) = some q) : q = p := by
  cases p with
  | num n =>
    rw [vp, vz, V.pv] at h
    split at h
    · simp [PV.k, PV.n] at h; exact h.symm
    · cases h
  | tru b =>
    rw [vp, vz, V.pv] at h
    split at h
    · cases b <;> (simp [PV.k, PV.n] at h; exact h.symm)
    · cases h
  | txt s =>
    rw [vp, vz, V.pv] at h
    split at h
    · simp [PV.k, PV.s] at h; exact h.symm
    · cases h
theorem emp_list : ((⟨#[]⟩ : ByteArray).toList == []) = true := by rw [Lib.toList_data]; rfl
def consN (x : N) (K : Nat → N) : Nat → N
  | 0 => x
  | i + 1 => K i
theorem aC_len (a : Str × PV) : (aC a).length = 9 := rfl
theorem flat_get {α : Type} (f : α → List Value) (k : Nat) (hf : ∀ a, (f a).length = k) : ∀ (l : List α) (i : Nat) (a : α), l[i]? = some a → ∀ j, j < k → (l.flatMap f)[i * k + j]? = (f a)[j]?
  | [], i, a, h, _, _ => by simp at h
  | x :: l, 0, a, h, j, hj => by
    simp at h; subst h
    rw [List.flatMap_cons, Nat.zero_mul, Nat.zero_add, List.getElem?_append_left (by rw [hf]; exact hj)]
  | x :: l, i + 1, a, h, j, hj => by
    rw [List.flatMap_cons, List.getElem?_append_right (by rw [hf, Nat.succ_mul]; omega), hf]
    have := flat_get f k hf l i a (by simpa using h) j hj
    rw [← this]
    congr 1
    rw [Nat.succ_mul]; omega
theorem fs_of {W : World} {ok : Nat → Prop} {al : List (Str × PV)} {v : Value} (h : Sl W ok 9 al.length (aCs al) v) (hs : ∀ x ∈ al, x.1.length ≤ maxLen ∧ x.2.sane) :
    ∃ a c, v = .slice a al.length c ∧ al.length ≤ c ∧ c ≤ maxLen ∧ FsIn W a al.length (fun i => ⟨((al.getD i ([], .num 0)).1).toArray⟩) (fun i => vp (al.getD i ([], .num 0)).2) := by
  obtain ⟨a, c, e, h1, h2, h3, h4⟩ := h
  refine ⟨a, c, e, h1, h2, fun i hi => ?_⟩
  have hg : al[i]? = some (al[i]'hi) := List.getElem?_eq_getElem hi
  have hm := hs _ (List.getElem_mem hi)
  have hd : al.getD i ([], .num 0) = al[i]'hi := by rw [List.getD_eq_getElem?_getD, hg]; rfl
  dsimp only
  rw [hd]
  refine ⟨?_, by rw [ba_size]; exact hm.1, vp_in hm.2⟩
  rcases h4 with ⟨-, h0⟩ | ⟨g, e1, hok, hlt, hc⟩
  · omega
  · refine ⟨g, 0, e1, fun j hj => ?_⟩
    have hj : j < 9 := hj
    rw [Nat.zero_add]
    have := flat_get aC 9 aC_len al i (al[i]'hi) hg j hj
    have hx : (aC (al[i]'hi))[j]? = some ((aC (al[i]'hi))[j]'(by rw [aC_len]; exact hj)) := List.getElem?_eq_getElem _
    rw [hx] at this
    rw [hc _ _ this]
    exact hx.symm
theorem al_of {al : List (Str × PV)} (h : ∀ i, i < al.length → aOk (fun i => ⟨((al.getD i ([], .num 0)).1).toArray⟩) (fun i => vp (al.getD i ([], .num 0)).2) i = true) : aL al.length (fun i => ⟨((al.getD i ([], .num 0)).1).toArray⟩) (fun i => vp (al.getD i ([], .num 0)).2) = al := by
  obtain ⟨h1, h2⟩ := aL_get (an := fun i => ⟨((al.getD i ([], .num 0)).1).toArray⟩) (A := fun i => vp (al.getD i ([], .num 0)).2) al.length
  apply List.ext_getElem?
  intro i
  rcases Nat.lt_or_ge i al.length with hi | hi
  · rw [h2 i hi]
    have hg : al[i]? = some (al[i]'hi) := List.getElem?_eq_getElem hi
    have hd : al.getD i ([], .num 0) = al[i]'hi := by rw [List.getD_eq_getElem?_getD, hg]; rfl
    have ho := h i hi
    simp only [aOk, Bool.and_eq_true] at ho
    obtain ⟨q, hq⟩ := Option.isSome_iff_exists.1 ho.2.2
    have := vp_pv hq
    rw [hq, hg, this, hd, Option.getD_some, ba_list]
  · rw [List.getElem?_eq_none (by omega), List.getElem?_eq_none (by omega)]
theorem conTo_cons : ∀ (n : Nat) (g : Nat → D → D) (e : D), conTo (n + 1) g e = g 0 (conTo n (fun i => g (i + 1)) e)
  | 0, g, e => rfl
  | n + 1, g, e => by
    rw [conTo, conTo_cons n g, conTo]
/-- Nodes that may be, told by what they are. -/
def D.good : D → Prop
  | .nil => True
  | .txt s m => s.length ≤ 4096 ∧ m.good
  | .host t al k m => nameB ⟨t.toArray⟩ = true ∧ (∀ i, i < al.length → aOk (fun i => ⟨((al.getD i ([], .num 0)).1).toArray⟩) (fun i => vp (al.getD i ([], .num 0)).2) i = true) ∧ k.good ∧ m.good
theorem rep_nodes {W : World} {ok : Nat → Prop} : ∀ (d : D) (vss : List (List Value)), DRep W ok d vss → d.sane →
    ∃ K : Nat → N, (∀ i, i < vss.length → vss[i]? = some (K i).cells ∧ (K i).In W ∧ (K i).zero) ∧ (∀ e : D, (∀ i, i < vss.length → (K i).may = true) → conTo vss.length (fun i => (K i).con) e = d.norm.app e) ∧ (d.good → ∀ i, i < vss.length → (K i).may = true) := by
  intro d
  induction d with
  | nil => rintro vss h _; rw [show vss = [] from h]; exact ⟨fun _ => .leaf, fun i hi => by simp at hi, fun e _ => rfl, fun _ i hi => by simp at hi⟩
  | txt s m ih =>
    rintro vss ⟨a3, c3, a4, c4, t, rfl, ⟨hc3, hc4⟩, h⟩ ⟨hs, hm⟩
    obtain ⟨K, h1, h2, hgd⟩ := ih t h hm
    refine ⟨consN (.mk 0 ⟨#[]⟩ ⟨s.toArray⟩ a3 0 c3 (fun _ => ⟨#[]⟩) (fun _ => .leaf) a4 0 c4 (fun _ => .leaf)) K, fun i hi => ?_, fun e he => ?_, fun hg i hi => ?_⟩
    · cases i with
      | zero =>
        exact ⟨rfl, ⟨⟨by decide, by decide⟩, by show (0 : Nat) ≤ maxLen; exact Nat.zero_le _, by rw [ba_size]; exact hs, ⟨Nat.zero_le _, hc3⟩, ⟨Nat.zero_le _, hc4⟩, fun i hi => by omega, fun i hi => by omega⟩, rfl, fun i hi => by omega⟩
      | succ i => exact h1 i (by simpa using hi)
    · rw [List.length_cons, conTo_cons]
      show (N.con _) (conTo t.length (fun i => (K i).con) e) = _
      rw [h2 e (fun i hi => he (i + 1) (by simpa using hi))]
      show (if ((⟨#[]⟩ : ByteArray).toList == []) = true then D.txt (⟨s.toArray⟩ : ByteArray).data.toList (m.norm.app e) else _) = _
      rw [if_pos emp_list, ba_list]
      rfl
    · cases i with
      | zero =>
        show ((textB ⟨#[]⟩ ⟨s.toArray⟩ 0 0 || hostB ⟨#[]⟩ ⟨s.toArray⟩ 0 _ _) && allB 0 _) = true
        have : textB ⟨#[]⟩ ⟨s.toArray⟩ 0 0 = true := by rw [textB, emp_list, ba_size, decide_eq_true hg.1]; rfl
        rw [this]; rfl
      | succ i => exact hgd hg.2 i (by simpa using hi)
  | host tag al k m ihk ihm =>
    rintro vss ⟨va, vk, ks, t, rfl, hva, hvk, hks, ht⟩ ⟨s1, s2, s3, s4⟩
    obtain ⟨K, h1, h2, hgd⟩ := ihm t ht s4
    obtain ⟨Kk, g1, g2, hgk⟩ := ihk ks hks s3
    obtain ⟨a3, c3, rfl, b1, b2, hf⟩ := fs_of hva s2
    obtain ⟨a4, c4, rfl, b3, b4, b5, b6⟩ := hvk
    refine ⟨consN (.mk 0 ⟨tag.toArray⟩ ⟨#[]⟩ a3 al.length c3 (fun i => ⟨((al.getD i ([], .num 0)).1).toArray⟩) (fun i => vp (al.getD i ([], .num 0)).2) a4 ks.length c4 Kk) K, fun i hi => ?_, fun e he => ?_, fun hg i hi => ?_⟩
    · cases i with
      | zero =>
        refine ⟨rfl, ⟨⟨by decide, by decide⟩, by rw [ba_size]; exact s1, by show (0 : Nat) ≤ maxLen; exact Nat.zero_le _, ⟨b1, b2⟩, ⟨b3, b4⟩, hf, fun i hi => ⟨?_, (g1 i hi).2.1⟩⟩, rfl, fun i hi => (g1 i hi).2.2⟩
        rcases b6 with ⟨-, h0⟩ | ⟨g, e1, hok, hlt, hc⟩
        · omega
        · refine ⟨g, 0, e1, fun j hj => ?_⟩
          have hall : ∀ x ∈ ks, x.length = 5 := fun x hx => by
            obtain ⟨q, hq, hqx⟩ := List.getElem_of_mem hx
            have := (g1 q hq).1
            rw [List.getElem?_eq_getElem hq] at this
            injection this with this
            rw [← hqx, this]
            have hin := (g1 q hq).2.1
            cases hK : Kk q with
            | leaf => rw [hK] at hin; exact hin.elim
            | mk => rfl
          have hfl : ks.flatten = (ks.map fun x => if x.length = 5 then x else [undef, undef, undef, undef, undef]).flatMap id := by
            rw [List.flatMap_id]
            congr 1
            conv => lhs; rw [← List.map_id ks]
            exact List.map_congr_left fun x hx => by rw [if_pos (hall x hx)]; rfl
          rw [hfl] at hc
          have hkc := (g1 i hi).1
          have h5 : (Kk i).cells.length = 5 := hall _ (List.mem_of_getElem? hkc)
          have := flat_get (fun x : List Value => if x.length = 5 then x else [undef, undef, undef, undef, undef]) 5 (fun a => by split <;> simp_all) ks i _ hkc j (by omega)
          rw [if_pos h5] at this
          have hx : (Kk i).cells[j]? = some ((Kk i).cells[j]'hj) := List.getElem?_eq_getElem _
          rw [hx] at this ⊢
          rw [Nat.zero_add]
          refine hc _ _ ?_
          rw [List.flatMap_id, ← this]
          rfl
      | succ i => exact h1 i (by simpa using hi)
    · rw [List.length_cons, conTo_cons]
      show (N.con _) (conTo t.length (fun i => (K i).con) e) = _
      rw [h2 e (fun i hi => he (i + 1) (by simpa using hi))]
      have hmay : N.may (.mk 0 ⟨tag.toArray⟩ ⟨#[]⟩ a3 al.length c3 (fun i => ⟨((al.getD i ([], .num 0)).1).toArray⟩) (fun i => vp (al.getD i ([], .num 0)).2) a4 ks.length c4 Kk) = true := he 0 (by simp)
      simp only [N.may, Bool.and_eq_true, Bool.or_eq_true] at hmay
      have hkk := g2 .nil fun i hi => allB_true.1 hmay.2 i hi
      show (if ((⟨tag.toArray⟩ : ByteArray).toList == []) = true then D.txt (⟨#[]⟩ : ByteArray).data.toList (m.norm.app e) else D.host (⟨tag.toArray⟩ : ByteArray).data.toList (aL al.length (fun i => ⟨((al.getD i ([], .num 0)).1).toArray⟩) (fun i => vp (al.getD i ([], .num 0)).2)) (conTo ks.length (fun i => (Kk i).con) .nil) (m.norm.app e)) = _
      by_cases h0 : tag = []
      · subst h0
        rw [if_pos emp_list]
        simp [D.norm, D.app]
      · have hne : ¬ ((⟨tag.toArray⟩ : ByteArray).toList == []) = true := by rw [Lib.toList_data, ba_list]; simpa using h0
        rw [if_neg hne, hkk, D.app_nil, ba_list, D.norm, if_neg h0, D.app]
        have hh : hostB ⟨tag.toArray⟩ ⟨#[]⟩ al.length (fun i => ⟨((al.getD i ([], .num 0)).1).toArray⟩) (fun i => vp (al.getD i ([], .num 0)).2) = true := by
          rcases hmay.1 with q | q
          · simp only [textB, Bool.and_eq_true] at q; exact absurd q.1 hne
          · exact q
        simp only [hostB, Bool.and_eq_true] at hh
        rw [al_of (allB_true.1 hh.2.2)]
    · cases i with
      | zero =>
        show ((textB ⟨tag.toArray⟩ ⟨#[]⟩ al.length ks.length || hostB ⟨tag.toArray⟩ ⟨#[]⟩ al.length (fun i => ⟨((al.getD i ([], .num 0)).1).toArray⟩) (fun i => vp (al.getD i ([], .num 0)).2)) && allB ks.length (fun i => (Kk i).may)) = true
        have h1 : hostB ⟨tag.toArray⟩ ⟨#[]⟩ al.length (fun i => ⟨((al.getD i ([], .num 0)).1).toArray⟩) (fun i => vp (al.getD i ([], .num 0)).2) = true := by rw [hostB, hg.1, emp_list, allB_true.2 hg.2.1]; rfl
        rw [h1, allB_true.2 (fun i hi => hgk hg.2.2.1 i hi), Bool.or_true]; rfl
      | succ i => exact hgd hg.2.2.2 i (by simpa using hi)
end Go.Proofs.YtajmdhcknmmbbaaGreatDoor.Sh
