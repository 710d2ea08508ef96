/-
  Plain: what was taken of a text is told by a text that is not much longer, its numbers are in range, its texts no longer than it.
  Conditions: none.
  Walks: the reader of documents' texts: nodes, told to node's own closure, or to Read's.
  Conditions: the reader lies as 'RD' says; its text has 1073741824 bytes at most; a node is taken as 'nodeR' says.
  Walks: the reader of documents' texts: node, nodes, of any text.
  Conditions: the reader lies as 'RD' says; its text has 1073741824 bytes at most; the library's tables hold what the program's text lays in them.
-/
import Derived.Test.YtajmdhcknmmbbaaGreatDoorShX
import Derived.Lib.ItoaLen
import Derived.Test.YtajmdhcknmmbbaaGreatDoorShD
namespace Go.Proofs.YtajmdhcknmmbbaaGreatDoor.Sh
set_option linter.unusedVariables false
set_option linter.unusedSimpArgs false
open Go.Proofs.YtajmdhcknmmbbaaGreatDoor Go.RowKit

theorem tx_norm : ∀ (d : D) (b : Bool), d.norm.tx b = d.tx b := by
  intro d
  induction d with
  | nil => intro b; rfl
  | txt s m ih => intro b; simp only [D.norm, D.tx, ih]
  | host t al k m ihk ihm =>
    intro b
    by_cases h : t = []
    · simp only [D.norm, D.tx, h, if_true, ihm]
    · simp only [D.norm, D.tx, h, if_false, ihm, ihk]
theorem sep_len (b : Bool) : (sep b).length ≤ 1 := by cases b <;> simp [sep]
theorem esc_len (b : UInt8) : (esc b).length ≤ 2 := by
  unfold esc
  split
  · simp
  · split
    · simp
    · split <;> simp
theorem quoteT_len (s : List UInt8) : (quoteT s).length ≤ 2 * s.length + 2 := by
  have : (s.flatMap esc).length ≤ 2 * s.length := by
    induction s with
    | nil => simp
    | cons b l ih => have := esc_len b; simp only [List.flatMap_cons, List.length_append, List.length_cons]; omega
  simp only [quoteT, List.length_cons, List.length_append, List.length_nil]; omega
theorem bodyN_take : ∀ (n : Nat) (r : List UInt8) (y : List UInt8 × List UInt8), bodyN n r = some y → y.1.length + y.2.length < r.length
  | 0, _, _, h => by cases h
  | n + 1, r, y, h => by
    rw [bodyN] at h
    split at h
    · rename_i hp; cases h; have := pre1_len hp; simp only [List.length_drop, List.length_nil]; omega
    · obtain ⟨x, hx, h⟩ := Option.bind_eq_some_iff.1 h
      obtain ⟨z, hz, h⟩ := Option.bind_eq_some_iff.1 h
      cases h
      have h1 := oneR_len hx
      have h2 := bodyN_take n x.2 z hz
      simp only [List.length_cons]
      omega
theorem quotedR_take {r : List UInt8} {y : List UInt8 × List UInt8} (h : quotedR r = some y) : y.1.length + y.2.length + 2 ≤ r.length := by
  obtain ⟨r', h1, h2⟩ := Option.bind_eq_some_iff.1 h
  have a := takeR_len h1
  have b := bodyN_take _ _ _ h2
  simp only [List.length_cons, List.length_nil] at a
  omega
theorem numR_take {r : List UInt8} {y : Int × List UInt8} (h : numR r = some y) : (-9223372036854775808 ≤ y.1 ∧ y.1 ≤ 9223372036854775807) ∧ y.2.length < r.length := by
  unfold numR at h
  split at h
  · rename_i v hv
    cases h
    have hb := Lib.parseIntB_bounds hv
    refine ⟨by constructor <;> (have := hb.1; have := hb.2; omega), ?_⟩
    have hl := trimL_le r numC
    rcases Nat.lt_or_ge (Lib.trimLeftS r numC).length r.length with h1 | h1
    · exact h1
    · rw [show r.length - (Lib.trimLeftS r numC).length = 0 by omega, List.take_zero] at hv
      cases hv
  · cases h
theorem valueR_take {r : List UInt8} {y : PV × List UInt8} (h : valueR r = some y) (hr : r.length ≤ 1073741824) : y.1.tx.length + 24 * y.2.length ≤ 24 * r.length ∧ y.1.sane := by
  unfold valueR at h
  split at h
  · obtain ⟨x, h1, h⟩ := Option.map_eq_some_iff.1 h; subst h
    have a := quotedR_take h1
    have b := quoteT_len x.1
    simp only [PV.tx, PV.sane]
    unfold maxLen
    exact ⟨by omega, by omega⟩
  · split at h
    · rename_i hp
      cases h
      have := pre_len hp
      simp only [List.length_cons, List.length_nil] at this
      simp only [PV.tx, List.length_drop, List.length_cons, List.length_nil]
      exact ⟨by omega, trivial⟩
    · split at h
      · rename_i hp
        cases h
        have := pre_len hp
        simp only [List.length_cons, List.length_nil] at this
        simp only [PV.tx, List.length_drop, List.length_cons, List.length_nil]
        exact ⟨by omega, trivial⟩
      · obtain ⟨x, h1, h⟩ := Option.map_eq_some_iff.1 h; subst h
        obtain ⟨a, b⟩ := numR_take h1
        have c := Lib.itoa_length_le x.1 a.1 a.2
        simp only [PV.tx, PV.sane]
        exact ⟨by omega, a⟩
theorem attrR_take {r : List UInt8} {y : (List UInt8 × PV) × List UInt8} (h : attrR r = some y) (hr : r.length ≤ 1073741824) : (quoteT y.1.1).length + y.1.2.tx.length + 2 + 24 * y.2.length ≤ 24 * r.length ∧ y.1.1.length ≤ maxLen ∧ y.1.2.sane := by
  obtain ⟨x, h1, h⟩ := Option.bind_eq_some_iff.1 h
  obtain ⟨r2, h2, h⟩ := Option.bind_eq_some_iff.1 h
  obtain ⟨v, h3, h⟩ := Option.bind_eq_some_iff.1 h
  cases h
  have a := quotedR_take h1
  have b := takeR_len h2
  have d := trim_le r [32]
  have c := valueR_take h3 (by omega)
  have e := quoteT_len x.1
  simp only [List.length_cons, List.length_nil] at *
  refine ⟨by have := c.1; omega, by unfold maxLen; omega, c.2⟩
theorem attrsN_take : ∀ (n : Nat) (r : List UInt8) (y : List (List UInt8 × PV) × List UInt8), attrsN n r = some y → r.length ≤ 1073741824 → (∀ b, (attrsT b y.1).length + 24 * y.2.length ≤ 24 * r.length) ∧ ∀ x ∈ y.1, x.1.length ≤ maxLen ∧ x.2.sane
  | 0, _, _, h, _ => by cases h
  | n + 1, r, y, h, hr => by
    rw [attrsN] at h
    split at h
    · cases h; exact ⟨fun b => by simp [attrsT], fun x hx => by cases hx⟩
    · obtain ⟨x, hx, h⟩ := Option.bind_eq_some_iff.1 h
      obtain ⟨z, hz, h⟩ := Option.bind_eq_some_iff.1 h
      cases h
      have h0 := attrR_len hx
      have h1 := attrR_take hx hr
      have h2 := attrsN_take n x.2 z hz (by omega)
      refine ⟨fun b => ?_, fun w hw => ?_⟩
      · have := sep_len b
        have h3 := h2.1 false
        have h4 := h1.1
        simp only [attrsT, List.length_append, List.length_cons]
        omega
      · rcases List.mem_cons.1 hw with rfl | hw
        · exact h1.2
        · exact h2.2 w hw
theorem tx_app : ∀ (d e : D) (b : Bool), ((d.app e).tx b).length ≤ (d.tx b).length + (e.tx false).length + 0 ∨ d = .nil := by
  intro d
  induction d with
  | nil => intro e b; exact .inr rfl
  | txt s m ih =>
    intro e b
    left
    rcases ih e false with h | h
    · simp only [D.app, D.tx, List.length_append] at h ⊢; omega
    · subst h; simp only [D.app, D.tx, List.length_append, List.length_nil]; omega
  | host t al k m ihk ihm =>
    intro e b
    left
    rcases ihm e false with h | h
    · simp only [D.app, D.tx, List.length_append] at h ⊢; omega
    · subst h; simp only [D.app, D.tx, List.length_append, List.length_nil]; omega
theorem sane_app : ∀ (d e : D), d.sane → e.sane → (d.app e).sane
  | .nil, _, _, h => h
  | .txt s m, e, h, g => ⟨h.1, sane_app m e h.2 g⟩
  | .host t al k m, e, h, g => ⟨h.1, h.2.1, h.2.2.1, sane_app m e h.2.2.2 g⟩
/-- What is told of what was taken, and how it is. -/
def Took (r : List UInt8) (y : D × List UInt8) : Prop := (∀ b, (y.1.tx b).length + 24 * y.2.length ≤ 24 * r.length) ∧ y.1.sane
theorem nodeF_take {f : List UInt8 → Option (D × List UInt8)} {r : List UInt8} {y : D × List UInt8} (hr : r.length ≤ 1073741824) (hf : ∀ r' z, r'.length < r.length → f r' = some z → Took r' z) (h : nodeF f r = some y) : Took r y ∧ y.1 ≠ .nil := by
  unfold nodeF at h
  split at h
  · rename_i hp
    have h0 := pre1_len hp
    obtain ⟨x, h1, h⟩ := Option.bind_eq_some_iff.1 h
    obtain ⟨r3, h2, h⟩ := Option.bind_eq_some_iff.1 h
    obtain ⟨a, h3, h⟩ := Option.bind_eq_some_iff.1 h
    obtain ⟨r5, h4, h⟩ := Option.bind_eq_some_iff.1 h
    obtain ⟨z, h5, h⟩ := Option.bind_eq_some_iff.1 h
    obtain ⟨r7, h6, h⟩ := Option.bind_eq_some_iff.1 h
    cases h
    have a1 := quotedR_take h1
    have a2 := takeR_len h2
    have a4 := takeR_len h4
    have a6 := takeR_len h6
    rw [List.length_drop] at a1
    simp only [List.length_cons, List.length_nil] at a2 a4 a6
    have a3 := attrsN_take _ _ _ h3 (by omega)
    have a3l := a3.1 true
    have a5 := hf _ _ (by omega) h5
    have a5l := a5.1 true
    have q := quoteT_len x.1
    refine ⟨⟨fun b => ?_, by show x.1.length ≤ maxLen; unfold maxLen; omega, a3.2, a5.2, trivial⟩, fun h => by cases h⟩
    have := sep_len b
    simp only [D.tx]
    split
    · simp only [List.length_append, List.length_nil]
      have q0 : (quoteT []).length = 2 := rfl
      omega
    · simp only [List.length_append, List.length_cons, List.length_nil]
      omega
  · obtain ⟨x, h1, h⟩ := Option.bind_eq_some_iff.1 h
    cases h
    have a := quotedR_take h1
    have q := quoteT_len x.1
    refine ⟨⟨fun b => ?_, by show x.1.length ≤ maxLen; unfold maxLen; omega, trivial⟩, fun h => by cases h⟩
    have := sep_len b
    simp only [D.tx, List.length_append, List.length_nil]
    omega
theorem rdN_take : ∀ (n : Nat) (r : List UInt8) (y : D × List UInt8), rdN n r = some y → r.length ≤ 1073741824 → Took r y
  | 0, _, _, h, _ => by cases h
  | n + 1, r, y, h, hr => by
    rw [rdN] at h
    split at h
    · cases h; exact ⟨fun b => by simp [D.tx], trivial⟩
    · obtain ⟨x, hx, h⟩ := Option.bind_eq_some_iff.1 h
      obtain ⟨z, hz, h⟩ := Option.bind_eq_some_iff.1 h
      cases h
      have h3 := trim_le r [32]
      obtain ⟨h1, hne⟩ := nodeF_take (by omega) (fun r' z hl hz => rdN_take n r' z hz (by omega)) hx
      have hlen := nodeF_len (fun r' z _ hz => rdN_len n r' z hz) hx
      have h2 := rdN_take n x.2 z hz (by omega)
      refine ⟨fun b => ?_, sane_app _ _ h1.2 h2.2⟩
      have a := h1.1 b
      have c := h2.1 false
      rcases tx_app x.1 z.1 b with t | t
      · simp only; omega
      · exact absurd t hne
theorem rdR_take {r : List UInt8} {y : D × List UInt8} (h : rdR r = some y) (hr : r.length ≤ 1073741824) : Took r y := rdN_take _ _ _ h hr
end Go.Proofs.YtajmdhcknmmbbaaGreatDoor.Sh
namespace Go.Proofs.YtajmdhcknmmbbaaGreatDoor.Sh
set_option linter.unusedVariables false
set_option linter.unusedSimpArgs false
open Go.Proofs.YtajmdhcknmmbbaaGreatDoor Go.ChangeShapes Go.WideShapes Go.RowKit Go.Deep

set_option maxRecDepth 100000 in
set_option maxHeartbeats 4000000 in
theorem nodesN_any {w0 : World} {R N : Nat} (hnode : ∀ r W, r.length ≤ N → RD w0 R r W → Calls Tryz.prog 136 #[rp R] W (PostV w0 R W (FNode W.heap.size) (nodeR r))) {q : Nat} {r : Str} {W : World} (p0 p1 p2 p3 : Value) (h : RD w0 R r W) (hl : r.length ≤ N) (hN : N ≤ 1073741824)
    (hq : W.heap[q]? = some (.cells #[p0, p1, p2, p3, .slice none 0 0] 58 (0, 0))) (hqR : q ≠ R) (hq0 : w0.heap.size ≤ q) :
    Calls Tryz.prog 85 #[rp R, .func (.func 161) #[] #[.pointer (some ⟨q, 0, none⟩)]] W (PostN w0 R q (fun v => #[p0, p1, p2, p3, v]) 58 W (rdR r)) := by
  have hlt := h.lt
  have hqlt := tr_lt_of_block hq
  have HND := Lib.hid hnode
  obtain ⟨post, hpost⟩ : ∃ p, PostN w0 R q (fun v => #[p0, p1, p2, p3, v]) 58 W (rdR r) = p := ⟨_, rfl⟩
  rw [hpost]
  have HB : Hid (∀ w' v, rdR r = none → Kp (fun i => i = R ∨ i = q) W w' → w'.heap[q]? = some (.cells ((fun v => #[p0, p1, p2, p3, v]) v) 58 (0, 0)) → post (.panicked [pz]) w') := Lib.hid fun w' v h1 h2 h3 => by rw [← hpost, h1]; exact ⟨rfl, h2, v, h3⟩
  have HE : Hid (∀ d vss v r' wr, NS w0 R q (fun v => #[p0, p1, p2, p3, v]) 58 W r d vss v r' wr → stop r' = true → post (.returned (.tuple #[])) wr) := Lib.hid fun d vss v r' wr h1 h2 => by rw [← hpost]; exact h1.fin h2
  have HS : Hid (NS w0 R q (fun v => #[p0, p1, p2, p3, v]) 58 W r .nil [] (.slice none 0 0) r W) := Lib.hid ⟨hq, World.ownsRow_nil _ _ _ _, rfl, h, Kp.refl _ _, by cases rdR r <;> simp [D.app], by simp⟩
  clear hpost h hq hnode
  go_enter Tryz.func85, Tryz.ntmps85
  go_wp2_with fail
  go_loopw [] (fun wr => ∃ d vss v r', NS w0 R q (fun v => #[p0, p1, p2, p3, v]) 58 W r d vss v r' wr) (fun wr => left R wr)
  case atStart => exact ⟨_, _, _, _, HS.out⟩
  case round =>
    obtain ⟨d, vss, v, r', hn⟩ := hrel
    have HN := Lib.hid hn
    have hrd := hn.rd
    have HL := Lib.hid hrd.left
    have hlr : r'.length ≤ r.length := by have := hn.len; omega
    have htl := trim_le r' [32]
    have hWs := hn.kp.size
    clear hn
    cases r' with
    | nil =>
      obtain ⟨c0, f0⟩ := hrd.cells
      go_wp2_with fail
      go_end0
      exact HE.out _ _ _ _ _ HN.out rfl
    | cons b t =>
      obtain ⟨c0, f0⟩ := hrd.cells
      have HH := Lib.hid (Tryz.strings_HasPrefix ⟨(b :: t).toArray⟩ ⟨#[93]⟩)
      obtain ⟨s, hs⟩ : ∃ s : ByteArray, (⟨(b :: t).toArray⟩ : ByteArray) = s := ⟨_, rfl⟩
      have hne : (s.toList == []) = false := by rw [Lib.toList_data, ← hs]; rfl
      have hemp : s.toList.isEmpty = false := by rw [Lib.toList_data, ← hs]; rfl
      have hdl : s.data.toList = b :: t := by rw [← hs]
      rw [hs] at HH c0
      clear hs
      cases hp : Lib.hasPrefix (b :: t) [93] with
      | true =>
        have HP : Hid (Lib.hasPrefix s.data.toList (⟨#[93]⟩ : ByteArray).data.toList = true) := Lib.hid (by rw [hdl]; exact hp)
        go_wp2_with (go_at_call 134; (with_reducible refine (HH.out _).mono ?_); rw [HP.out]; rintro e1 w1 ⟨rfl, rfl⟩)
        go_end0
        exact HE.out _ _ _ _ _ HN.out (by show (false || Lib.hasPrefix (b :: t) [93]) = true; rw [hp]; rfl)
      | false =>
        have HP : Hid (Lib.hasPrefix s.data.toList (⟨#[93]⟩ : ByteArray).data.toList = false) := Lib.hid (by rw [hdl]; exact hp)
        have HST : Hid (stop (b :: t) = false) := Lib.hid (by show (false || Lib.hasPrefix (b :: t) [93]) = false; rw [hp]; rfl)
        have hlt2 : (Lib.trimPrefix (b :: t) [32]).length ≤ N := by omega
        cases hx : nodeR (Lib.trimPrefix (b :: t) [32]) with
        | none =>
          go_wp2_with (first
            | (go_at_call 134; (with_reducible refine (HH.out _).mono ?_); rw [HP.out]; rintro e1 w1 ⟨rfl, rfl⟩)
            | (go_at_call 135; (with_reducible refine (is_any hrd ⟨#[32]⟩).mono ?_); rintro e2 w2 ⟨rfl, h2, hk2⟩; have g2 : RD w0 R (Lib.trimPrefix (b :: t) [32]) w2 := h2; clear h2)
            | (go_at_call 136; (with_reducible refine (HND.out _ _ hlt2 g2).mono ?_); rw [hx]; rintro e3 w3 ⟨rfl, hk3⟩))
          exact ⟨rfl, HB.out _ v (HN.out.bad HST.out hx) (HN.out.kp.then (hk2.trans hk3) (fun i hi e => .inl e)) (kp_blk (hk2.trans hk3) hqR HN.out.box)⟩
        | some x =>
          obtain ⟨x, r2⟩ := x
          have hnl : r2.length < _ := nodeR_len hx
          go_upto_region 2 with (first
            | (go_at_call 134; (with_reducible refine (HH.out _).mono ?_); rw [HP.out]; rintro e1 w1 ⟨rfl, rfl⟩)
            | (go_at_call 135; (with_reducible refine (is_any hrd ⟨#[32]⟩).mono ?_); rintro e2 w2 ⟨rfl, h2, hk2⟩; have g2 : RD w0 R (Lib.trimPrefix (b :: t) [32]) w2 := h2; clear h2))
          have hs2 := hk2.size
          go_wp2_with (first
            | (go_at_call 136; (with_reducible refine (HND.out _ _ hlt2 g2).mono ?_); rw [hx]; rintro e3 w3 ⟨v3, rfl, ⟨i0, s1, s2, a3, n3, c3, a4, n4, c4, rfl, hr3⟩, g3, hk3⟩; have hs3 := hk3.size; have HR3 := Lib.hid hr3; clear hr3; have HK3 := Lib.hid (hk2.trans hk3); have HO3 := Lib.hid (own_kp HN.out.own HK3.out (fun i hi => by omega)); have HQ3 := Lib.hid (kp_blk HK3.out hqR HN.out.box); have hv3 : v.ownBlock ≠ some q := (fun e => by have := (HN.out.own.lt q e).1; omega))
            | (go_at_call 161; (with_reducible refine (tellN_any p0 p1 p2 p3 HQ3.out HO3.out hv3 (by omega) (by have := HN.out.len; omega) i0 s1 s2 a3 a4 n3 n4 c3 c4).mono ?_); rintro e4 w4 ⟨rfl, v', q1, q2, q3, q4, q5⟩; have HM := Lib.hid (HN.out.more hqlt hlt hqR hq0 HST.out hx HK3.out g3 (HR3.out.keep (Nat.le_refl _) fun b hb hok => ⟨Nat.le_trans hs2 hok, rfl⟩) q1 q2 q4 q5)))
          go_roundw
          case rel => exact ⟨_, _, _, _, HM.out⟩
          case measure =>
            have e1 := HL.out
            have e2 := HM.out.rd.left
            omega
set_option maxRecDepth 100000 in
set_option maxHeartbeats 4000000 in
theorem nodesR_any {w0 : World} {R N : Nat} (hnode : ∀ r W, r.length ≤ N → RD w0 R r W → Calls Tryz.prog 136 #[rp R] W (PostV w0 R W (FNode W.heap.size) (nodeR r))) {q : Nat} {r : Str} {W : World} (h : RD w0 R r W) (hl : r.length ≤ N) (hN : N ≤ 1073741824)
    (hq : W.heap[q]? = some (.cells #[.slice none 0 0] 22 (0, 0))) (hqR : q ≠ R) (hq0 : w0.heap.size ≤ q) :
    Calls Tryz.prog 85 #[rp R, .func (.func 86) #[] #[.pointer (some ⟨q, 0, none⟩)]] W (PostN w0 R q (fun v => #[v]) 22 W (rdR r)) := by
  have hlt := h.lt
  have hqlt := tr_lt_of_block hq
  have HND := Lib.hid hnode
  obtain ⟨post, hpost⟩ : ∃ p, PostN w0 R q (fun v => #[v]) 22 W (rdR r) = p := ⟨_, rfl⟩
  rw [hpost]
  have HB : Hid (∀ w' v, rdR r = none → Kp (fun i => i = R ∨ i = q) W w' → w'.heap[q]? = some (.cells ((fun v => #[v]) v) 22 (0, 0)) → post (.panicked [pz]) w') := Lib.hid fun w' v h1 h2 h3 => by rw [← hpost, h1]; exact ⟨rfl, h2, v, h3⟩
  have HE : Hid (∀ d vss v r' wr, NS w0 R q (fun v => #[v]) 22 W r d vss v r' wr → stop r' = true → post (.returned (.tuple #[])) wr) := Lib.hid fun d vss v r' wr h1 h2 => by rw [← hpost]; exact h1.fin h2
  have HS : Hid (NS w0 R q (fun v => #[v]) 22 W r .nil [] (.slice none 0 0) r W) := Lib.hid ⟨hq, World.ownsRow_nil _ _ _ _, rfl, h, Kp.refl _ _, by cases rdR r <;> simp [D.app], by simp⟩
  clear hpost h hq hnode
  go_enter Tryz.func85, Tryz.ntmps85
  go_wp2_with fail
  go_loopw [] (fun wr => ∃ d vss v r', NS w0 R q (fun v => #[v]) 22 W r d vss v r' wr) (fun wr => left R wr)
  case atStart => exact ⟨_, _, _, _, HS.out⟩
  case round =>
    obtain ⟨d, vss, v, r', hn⟩ := hrel
    have HN := Lib.hid hn
    have hrd := hn.rd
    have HL := Lib.hid hrd.left
    have hlr : r'.length ≤ r.length := by have := hn.len; omega
    have htl := trim_le r' [32]
    have hWs := hn.kp.size
    clear hn
    cases r' with
    | nil =>
      obtain ⟨c0, f0⟩ := hrd.cells
      go_wp2_with fail
      go_end0
      exact HE.out _ _ _ _ _ HN.out rfl
    | cons b t =>
      obtain ⟨c0, f0⟩ := hrd.cells
      have HH := Lib.hid (Tryz.strings_HasPrefix ⟨(b :: t).toArray⟩ ⟨#[93]⟩)
      obtain ⟨s, hs⟩ : ∃ s : ByteArray, (⟨(b :: t).toArray⟩ : ByteArray) = s := ⟨_, rfl⟩
      have hne : (s.toList == []) = false := by rw [Lib.toList_data, ← hs]; rfl
      have hemp : s.toList.isEmpty = false := by rw [Lib.toList_data, ← hs]; rfl
      have hdl : s.data.toList = b :: t := by rw [← hs]
      rw [hs] at HH c0
      clear hs
      cases hp : Lib.hasPrefix (b :: t) [93] with
      | true =>
        have HP : Hid (Lib.hasPrefix s.data.toList (⟨#[93]⟩ : ByteArray).data.toList = true) := Lib.hid (by rw [hdl]; exact hp)
        go_wp2_with (go_at_call 134; (with_reducible refine (HH.out _).mono ?_); rw [HP.out]; rintro e1 w1 ⟨rfl, rfl⟩)
        go_end0
        exact HE.out _ _ _ _ _ HN.out (by show (false || Lib.hasPrefix (b :: t) [93]) = true; rw [hp]; rfl)
      | false =>
        have HP : Hid (Lib.hasPrefix s.data.toList (⟨#[93]⟩ : ByteArray).data.toList = false) := Lib.hid (by rw [hdl]; exact hp)
        have HST : Hid (stop (b :: t) = false) := Lib.hid (by show (false || Lib.hasPrefix (b :: t) [93]) = false; rw [hp]; rfl)
        have hlt2 : (Lib.trimPrefix (b :: t) [32]).length ≤ N := by omega
        cases hx : nodeR (Lib.trimPrefix (b :: t) [32]) with
        | none =>
          go_wp2_with (first
            | (go_at_call 134; (with_reducible refine (HH.out _).mono ?_); rw [HP.out]; rintro e1 w1 ⟨rfl, rfl⟩)
            | (go_at_call 135; (with_reducible refine (is_any hrd ⟨#[32]⟩).mono ?_); rintro e2 w2 ⟨rfl, h2, hk2⟩; have g2 : RD w0 R (Lib.trimPrefix (b :: t) [32]) w2 := h2; clear h2)
            | (go_at_call 136; (with_reducible refine (HND.out _ _ hlt2 g2).mono ?_); rw [hx]; rintro e3 w3 ⟨rfl, hk3⟩))
          exact ⟨rfl, HB.out _ v (HN.out.bad HST.out hx) (HN.out.kp.then (hk2.trans hk3) (fun i hi e => .inl e)) (kp_blk (hk2.trans hk3) hqR HN.out.box)⟩
        | some x =>
          obtain ⟨x, r2⟩ := x
          have hnl : r2.length < _ := nodeR_len hx
          go_upto_region 2 with (first
            | (go_at_call 134; (with_reducible refine (HH.out _).mono ?_); rw [HP.out]; rintro e1 w1 ⟨rfl, rfl⟩)
            | (go_at_call 135; (with_reducible refine (is_any hrd ⟨#[32]⟩).mono ?_); rintro e2 w2 ⟨rfl, h2, hk2⟩; have g2 : RD w0 R (Lib.trimPrefix (b :: t) [32]) w2 := h2; clear h2))
          have hs2 := hk2.size
          go_wp2_with (first
            | (go_at_call 136; (with_reducible refine (HND.out _ _ hlt2 g2).mono ?_); rw [hx]; rintro e3 w3 ⟨v3, rfl, ⟨i0, s1, s2, a3, n3, c3, a4, n4, c4, rfl, hr3⟩, g3, hk3⟩; have hs3 := hk3.size; have HR3 := Lib.hid hr3; clear hr3; have HK3 := Lib.hid (hk2.trans hk3); have HO3 := Lib.hid (own_kp HN.out.own HK3.out (fun i hi => by omega)); have HQ3 := Lib.hid (kp_blk HK3.out hqR HN.out.box); have hv3 : v.ownBlock ≠ some q := (fun e => by have := (HN.out.own.lt q e).1; omega))
            | (go_at_call 86; (with_reducible refine (tellR_any HQ3.out HO3.out hv3 (by omega) (by have := HN.out.len; omega) i0 s1 s2 a3 a4 n3 n4 c3 c4).mono ?_); rintro e4 w4 ⟨rfl, v', q1, q2, q3, q4, q5⟩; have HM := Lib.hid (HN.out.more hqlt hlt hqR hq0 HST.out hx HK3.out g3 (HR3.out.keep (Nat.le_refl _) fun b hb hok => ⟨Nat.le_trans hs2 hok, rfl⟩) q1 q2 q4 q5)))
          go_roundw
          case rel => exact ⟨_, _, _, _, HM.out⟩
          case measure =>
            have e1 := HL.out
            have e2 := HM.out.rd.left
            omega
end Go.Proofs.YtajmdhcknmmbbaaGreatDoor.Sh
namespace Go.Proofs.YtajmdhcknmmbbaaGreatDoor.Sh
set_option linter.unusedVariables false
set_option linter.unusedSimpArgs false
open Go.Proofs.YtajmdhcknmmbbaaGreatDoor Go.ChangeShapes Go.WideShapes Go.RowKit Go.Deep

theorem size_node : (Tryz.prog.info? 58).map (·.size) = some 5 := by kernel_rfl
theorem blk5 {b : Nat} {w : World} {x0 x1 x2 x3 x4 : Value} {ty : TypeId} (h : w.heap[b]? = some (.cells #[x0, x1, x2, x3, x4] ty (0, 0))) :
    (w.cell? ⟨b, 3, none⟩ = some x3 ∧ w.cell? ⟨b, 4, none⟩ = some x4) ∧ w.frozen? ⟨b, 3, none⟩ = false ∧ w.frozen? ⟨b, 4, none⟩ = false :=
  ⟨⟨(by rw [Lib.cell_of_heap h]; rfl), (by rw [Lib.cell_of_heap h]; rfl)⟩, Lib.frozen_of_heap h 3, Lib.frozen_of_heap h 4⟩
theorem set5_3 {b : Nat} {w : World} {x0 x1 x2 x3 x4 u : Value} {ty : TypeId} (h : w.heap[b]? = some (.cells #[x0, x1, x2, x3, x4] ty (0, 0))) : (w.setCell ⟨b, 3, none⟩ u).heap[b]? = some (.cells #[x0, x1, x2, u, x4] ty (0, 0)) := by
  simp [World.setCell, Array.getElem?_modify, h]
theorem nodeR_host (r : Str) (h : Lib.hasPrefix r [40] = true) : nodeR r = (quotedR (r.drop 1)).bind fun x => (takeR [32, 123] x.2).bind fun r3 => (attrsR r3).bind fun y => (takeR [125, 32, 91] y.2).bind fun r5 => (rdR r5).bind fun z => (takeR [93, 41] z.2).bind fun r7 => some (.host x.1 y.1 z.1 .nil, r7) := by
  rw [nodeR, nodeF, if_pos h]
theorem nodeR_text (r : Str) (h : Lib.hasPrefix r [40] = false) : nodeR r = (quotedR r).bind fun x => some (.txt x.1 .nil, x.2) := by
  rw [nodeR, nodeF, if_neg (by rw [h]; exact Bool.false_ne_true)]

set_option maxRecDepth 100000 in
set_option maxHeartbeats 8000000 in
theorem node_step {w0 : World} {R : Nat} (ht : STabs w0) {r : Str} {W : World} (h : RD w0 R r W) (hl : r.length ≤ 1073741824)
    (hnodes : ∀ (q : Nat) (r5 : Str) (W5 : World) (p0 p1 p2 p3 : Value), r5.length < r.length → RD w0 R r5 W5 → W5.heap[q]? = some (.cells #[p0, p1, p2, p3, .slice none 0 0] 58 (0, 0)) → q ≠ R → w0.heap.size ≤ q →
      Calls Tryz.prog 85 #[rp R, .func (.func 161) #[] #[.pointer (some ⟨q, 0, none⟩)]] W5 (PostN w0 R q (fun v => #[p0, p1, p2, p3, v]) 58 W5 (rdR r5))) :
    Calls Tryz.prog 136 #[rp R] W (PostV w0 R W (FNode W.heap.size) (nodeR r)) := by
  obtain ⟨W0, hW0⟩ : ∃ W0, W.alloc (.cells zeroN 58) = W0 := ⟨_, rfl⟩
  have hlt := h.lt
  have HND := Lib.hid hnodes
  have HR0 : Hid (RD w0 R r W0) := Lib.hid (by rw [← hW0]; exact h.alloc _)
  have HG0 : Hid (Kp (· = R) W W0) := Lib.hid (by rw [← hW0]; exact (Kp.refl _ W).alloc _)
  have HK0 : Hid (W0.heap[W.heap.size]? = some (.cells zeroN 58 (0, 0))) := Lib.hid (by rw [← hW0]; exact heap_alloc_new _ _)
  have hz0 : W.heap.size < W0.heap.size := by rw [← hW0]; simp
  have hb0 := h.base
  obtain ⟨post, hpost⟩ : ∃ p, PostV w0 R W (FNode W.heap.size) (nodeR r) = p := ⟨_, rfl⟩
  rw [hpost]
  have HB : Hid (∀ w', nodeR r = none → Kp (· = R) W w' → post (.panicked [pz]) w') := Lib.hid fun w' h1 h2 => by rw [← hpost, h1]; exact ⟨rfl, h2⟩
  have HO : Hid (∀ x r' (i0 : Int) (s1 s2 : ByteArray) (a3 : Option Addr) (n3 c3 : Nat) (a4 : Option Addr) (n4 c4 : Nat) w', nodeR r = some (x, r') → RD w0 R r' w' → Kp (· = R) W w' → DRep w' (W.heap.size < ·) x [[.int .i64 i0, .string s1, .string s2, .slice a3 n3 c3, .slice a4 n4 c4]] →
      post (.returned (.agg #[.int .i64 i0, .string s1, .string s2, .slice a3 n3 c3, .slice a4 n4 c4])) (w'.setRow W.heap.size #[.int .i64 i0, .string s1, .string s2, .slice a3 n3 c3, .slice a4 n4 c4])) := Lib.hid fun x r' i0 s1 s2 a3 n3 c3 a4 n4 c4 w' h1 h2 h3 h4 => by
    rw [← hpost, h1]
    exact ⟨_, rfl, ⟨_, _, _, _, _, _, _, _, _, rfl, h4.keep (by simp [World.setRow]) fun b hb hok => ⟨by omega, setRow_other _ _ _ _ (by omega)⟩⟩, h2.row (by omega) (by omega) _, h3.row (.inl (Nat.le_refl _)) _⟩
  clear hpost h hnodes
  cases h40 : Lib.hasPrefix r [40] with
  | false =>
    have hnr := nodeR_text r h40
    cases hq1 : quotedR r with
    | none =>
      have HN : Hid (nodeR r = none) := Lib.hid (by rw [hnr, hq1]; rfl)
      clear hnr
      go_enter Tryz.func136, Tryz.ntmps136
      go_wp2_with (first
        | (go_at_call 135; (with_reducible refine (is_any HR0.out ⟨#[40]⟩).mono ?_); rw [show Lib.hasPrefix r (⟨#[40]⟩ : ByteArray).data.toList = false from h40, show Lib.trimPrefix r (⟨#[40]⟩ : ByteArray).data.toList = r from trim_no h40]; rintro e1 w1 ⟨rfl, g1, hk1⟩)
        | (go_at_call 158; (with_reducible refine (quoted_any g1 (by omega)).mono ?_); rw [hq1]; rintro e2 w2 ⟨rfl, hk2⟩))
      exact ⟨rfl, HB.out _ HN.out ((HG0.out.trans hk1).trans hk2)⟩
    | some x =>
      obtain ⟨t, r2⟩ := x
      have HN : Hid (nodeR r = some (.txt t .nil, r2)) := Lib.hid (by rw [hnr, hq1]; rfl)
      clear hnr
      go_enter Tryz.func136, Tryz.ntmps136
      go_wp2_with (first
        | (go_at_call 135; (with_reducible refine (is_any HR0.out ⟨#[40]⟩).mono ?_); rw [show Lib.hasPrefix r (⟨#[40]⟩ : ByteArray).data.toList = false from h40, show Lib.trimPrefix r (⟨#[40]⟩ : ByteArray).data.toList = r from trim_no h40]; rintro e1 w1 ⟨rfl, g1, hk1⟩)
        | (go_at_call 158; (with_reducible refine (quoted_any g1 (by omega)).mono ?_); rw [hq1]; rintro e2 w2 ⟨v2, rfl, rfl, g2, hk2⟩)
        | (refine wpList_store_row rfl 58 _ _ rfl W.heap.size _ rfl rfl 58 zeroN (kp_blk (hk1.trans hk2) (by omega) HK0.out) size_node rfl (by simp [Value.oneCell']) ?_))
      refine bodyPost_ret (results_cell_row Tryz.results136 _ _ W.heap.size 58 _ (0, 0) _ rfl (setRow_heap _ _ _ _ _ _ (kp_blk (hk1.trans hk2) (by omega) HK0.out)) Tryz.underlying58 rfl size_node) rfl ?_
      exact HO.out _ _ _ _ _ _ _ _ _ _ _ w2 HN.out g2 ((HG0.out.trans hk1).trans hk2) ⟨_, _, _, _, [], rfl, ⟨Nat.zero_le _, Nat.zero_le _⟩, rfl⟩
  | true =>
    have hnr := nodeR_host r h40
    have hl1 : (r.drop 1).length < r.length := by have := pre1_len h40; rw [List.length_drop]; omega
    cases hq1 : quotedR (r.drop 1) with
    | none =>
      have HN : Hid (nodeR r = none) := Lib.hid (by rw [hnr, hq1]; rfl)
      clear hnr
      go_enter Tryz.func136, Tryz.ntmps136
      go_wp2_with (first
        | (go_at_call 135; (with_reducible refine (is_any HR0.out ⟨#[40]⟩).mono ?_); rw [show Lib.hasPrefix r (⟨#[40]⟩ : ByteArray).data.toList = true from h40, show Lib.trimPrefix r (⟨#[40]⟩ : ByteArray).data.toList = r.drop 1 from trim_yes h40]; rintro e1 w1 ⟨rfl, g1, hk1⟩)
        | (go_at_call 158; (with_reducible refine (quoted_any g1 (by omega)).mono ?_); rw [hq1]; rintro e2 w2 ⟨rfl, hk2⟩))
      exact ⟨rfl, HB.out _ HN.out ((HG0.out.trans hk1).trans hk2)⟩
    | some x =>
      obtain ⟨tag, r2⟩ := x
      rw [hq1] at hnr
      simp only [Option.bind_some] at hnr
      have hl2 : r2.length < (r.drop 1).length := quotedR_len hq1
      go_enter Tryz.func136, Tryz.ntmps136
      go_upto_region 4 with (first
        | (go_at_call 135; (with_reducible refine (is_any HR0.out ⟨#[40]⟩).mono ?_); rw [show Lib.hasPrefix r (⟨#[40]⟩ : ByteArray).data.toList = true from h40, show Lib.trimPrefix r (⟨#[40]⟩ : ByteArray).data.toList = r.drop 1 from trim_yes h40]; rintro e1 w1 ⟨rfl, g1, hk1⟩)
        | (go_at_call 158; (with_reducible refine (quoted_any g1 (by omega)).mono ?_); rw [hq1]; rintro e2 w2 ⟨v2, rfl, rfl, g2, hk2⟩)
        | (refine wpList_store_row rfl 58 _ _ rfl w2.heap.size _ rfl rfl 58 zeroN (heap_alloc_new _ _) size_node rfl (by simp [Value.oneCell']) ?_))
      have hs2 := (hk1.trans hk2).size
      have hkz : Kp (· = R) W w2 := (HG0.out.trans hk1).trans hk2
      have hz2 := kp_blk (hk1.trans hk2) (by omega) HK0.out
      obtain ⟨W3, hW3⟩ : ∃ W3, ((w2.alloc (.cells #[.int .i64 0, .string ⟨#[]⟩, .string ⟨#[]⟩, .slice none 0 0, .slice none 0 0] 58)).setRow w2.heap.size #[.int .i64 0, .string ⟨tag.toArray⟩, .string ⟨#[]⟩, .slice none 0 0, .slice none 0 0]) = W3 := ⟨_, rfl⟩
      rw [hW3]
      have hqR : w2.heap.size ≠ R := by have := g2.lt; omega
      have hq0 : w0.heap.size ≤ w2.heap.size := by omega
      have HR3 : Hid (RD w0 R r2 W3) := Lib.hid (by rw [← hW3]; exact (g2.alloc _).row hqR hq0 _)
      have HG3 : Hid (Kp (· = R) W W3) := Lib.hid (by rw [← hW3]; exact (hkz.alloc _).row (.inl hkz.size) _)
      have HQ3 : Hid (W3.heap[w2.heap.size]? = some (.cells #[.int .i64 0, .string ⟨tag.toArray⟩, .string ⟨#[]⟩, .slice none 0 0, .slice none 0 0] 58 (0, 0))) := Lib.hid (by rw [← hW3]; exact setRow_heap _ _ _ _ _ _ (heap_alloc_new _ _))
      have HZ3 : Hid (W3.heap[W.heap.size]? = some (.cells zeroN 58 (0, 0))) := Lib.hid (by rw [← hW3, setRow_other _ _ _ _ (by omega)]; exact (Below.heap_alloc _ _ _ (by omega)).trans hz2)
      have hs3 : w2.heap.size < W3.heap.size := by rw [← hW3]; simp [World.setRow]
      clear hW3 hk1 hk2 g1 g2
      generalize w2.heap.size = q at hs2 hqR hq0 HQ3 hs3 ⊢
      have hWq : W.heap.size < q := by omega
      clear hz2 hkz hs2
      cases ht1 : takeR [32, 123] r2 with
      | none =>
        have HN : Hid (nodeR r = none) := Lib.hid (by rw [hnr, ht1]; rfl)
        go_wp2_with (go_at_call 159; (with_reducible refine (take_any HR3.out ⟨#[32, 123]⟩).mono ?_); rw [show takeR (⟨#[32, 123]⟩ : ByteArray).data.toList r2 = none from ht1]; rintro e4 w4 ⟨rfl, hk4⟩)
        exact ⟨rfl, HB.out _ HN.out (HG3.out.trans hk4)⟩
      | some r3 =>
        rw [ht1] at hnr
        simp only [Option.bind_some] at hnr
        have hl3 := takeR_len ht1
        go_upto_region 5 with (go_at_call 159; (with_reducible refine (take_any HR3.out ⟨#[32, 123]⟩).mono ?_); rw [show takeR (⟨#[32, 123]⟩ : ByteArray).data.toList r2 = some r3 from ht1]; rintro e4 w4 ⟨v4, rfl, rfl, g4, hk4⟩)
        have hs4 := hk4.size
        have HQ4 := Lib.hid (kp_blk hk4 hqR HQ3.out)
        have HZ4 := Lib.hid (kp_blk hk4 (by omega) HZ3.out)
        cases ha : attrsR r3 with
        | none =>
          have HN : Hid (nodeR r = none) := Lib.hid (by rw [hnr, ha]; rfl)
          go_wp2_with (go_at_call 160; (with_reducible refine (attrs_any g4 (by omega) ht).mono ?_); rw [ha]; rintro e5 w5 ⟨rfl, hk5⟩)
          exact ⟨rfl, HB.out _ HN.out ((HG3.out.trans hk4).trans hk5)⟩
        | some y =>
          obtain ⟨al, r4⟩ := y
          rw [ha] at hnr
          simp only [Option.bind_some] at hnr
          have hl4 : r4.length ≤ r3.length := attrsR_len ha
          go_upto_region 6 with (go_at_call 160; (with_reducible refine (attrs_any g4 (by omega) ht).mono ?_); rw [ha]; rintro e5 w5 ⟨v5, rfl, hf5, g5, hk5⟩; have HF5 := Lib.hid hf5; obtain ⟨a3, c3, rfl, hc3, hm3⟩ := own_slice hf5; have HQ5 := Lib.hid (kp_blk hk5 hqR HQ4.out); have HZ5 := Lib.hid (kp_blk hk5 (by omega) HZ4.out); obtain ⟨⟨d3, d4⟩, e3, e4⟩ := blk5 HQ5.out; clear hf5)
          have hs5 := hk5.size
          obtain ⟨W6, hW6⟩ : ∃ W6, w5.setCell ⟨q, 3, none⟩ (.slice a3 al.length c3) = W6 := ⟨_, rfl⟩
          rw [hW6]
          have HR6 : Hid (RD w0 R r4 W6) := Lib.hid (by rw [← hW6]; exact g5.set hqR hq0 _ _)
          have HG6 : Hid (Kp (· = R) W W6) := Lib.hid (by rw [← hW6]; exact ((HG3.out.trans hk4).trans hk5).set (.inl (by omega)) _ _)
          have HQ6 : Hid (W6.heap[q]? = some (.cells #[.int .i64 0, .string ⟨tag.toArray⟩, .string ⟨#[]⟩, .slice a3 al.length c3, .slice none 0 0] 58 (0, 0))) := Lib.hid (by rw [← hW6]; exact set5_3 HQ5.out)
          have HZ6 : Hid (W6.heap[W.heap.size]? = some (.cells zeroN 58 (0, 0))) := Lib.hid (by rw [← hW6]; exact (Below.heap_setCell _ _ _ _ (by show W.heap.size ≠ q; omega)).trans HZ5.out)
          have HF6 : Hid (FAttrs w4.heap.size al (.slice a3 al.length c3) W6) := Lib.hid (by rw [← hW6]; exact own_kp HF5.out ((Kp.refl (· = q) _).set (.inr rfl) _ _) (fun i hi e => by omega))
          have hs6 : w5.heap.size = W6.heap.size := by rw [← hW6]; simp [World.setCell]
          clear hW6 d3 d4 e3 e4 g5 g4
          cases ht2 : takeR [125, 32, 91] r4 with
          | none =>
            have HN : Hid (nodeR r = none) := Lib.hid (by rw [hnr, ht2]; rfl)
            go_wp2_with (go_at_call 159; (with_reducible refine (take_any HR6.out ⟨#[125, 32, 91]⟩).mono ?_); rw [show takeR (⟨#[125, 32, 91]⟩ : ByteArray).data.toList r4 = none from ht2]; rintro e7 w7 ⟨rfl, hk7⟩)
            exact ⟨rfl, HB.out _ HN.out (HG6.out.trans hk7)⟩
          | some r5 =>
            rw [ht2] at hnr
            simp only [Option.bind_some] at hnr
            have hl5 := takeR_len ht2
            have hl5' : r5.length < r.length := by simp only [List.length_cons, List.length_nil] at hl3 hl5; omega
            go_upto_region 7 with (go_at_call 159; (with_reducible refine (take_any HR6.out ⟨#[125, 32, 91]⟩).mono ?_); rw [show takeR (⟨#[125, 32, 91]⟩ : ByteArray).data.toList r4 = some r5 from ht2]; rintro e7 w7 ⟨v7, rfl, rfl, g7, hk7⟩)
            have hs7 := hk7.size
            have HQ7 := Lib.hid (kp_blk hk7 hqR HQ6.out)
            have HZ7 := Lib.hid (kp_blk hk7 (by omega) HZ6.out)
            have HF7 := Lib.hid (own_kp HF6.out hk7 (fun i hi e => by omega))
            have HN7 := Lib.hid (HND.out q r5 w7 _ _ _ _ hl5' g7 HQ7.out hqR hq0)
            cases hrd : rdR r5 with
            | none =>
              have HN : Hid (nodeR r = none) := Lib.hid (by rw [hnr, hrd]; rfl)
              rw [hrd] at HN7
              go_wp2_with (go_at_call 85; (with_reducible refine HN7.out.mono ?_); rintro e8 w8 ⟨rfl, hk8, -⟩)
              exact ⟨rfl, HB.out _ HN.out ((HG6.out.trans hk7).then hk8 (fun i hi e => e.elim id (fun e => by omega)))⟩
            | some z =>
              obtain ⟨d, r6⟩ := z
              rw [hrd] at hnr HN7
              simp only [Option.bind_some] at hnr
              have hl6 : r6.length ≤ r5.length := rdR_len hrd
              go_upto_region 8 with (go_at_call 85; (with_reducible refine HN7.out.mono ?_); rintro e8 w8 ⟨rfl, g8, hk8, v8, vss, q8, o8, r8⟩)
              have HK8 : Hid (Kp (· = R) W w8) := Lib.hid ((HG6.out.trans hk7).then hk8 (fun i hi e => e.elim id (fun e => by omega)))
              have HO8 := Lib.hid o8
              obtain ⟨a4, c4, rfl, hc4, hm4⟩ := own_slice o8
              have HQ8 := Lib.hid q8
              have HD8 := Lib.hid r8
              have HZ8 := Lib.hid (kp_blk hk8 (fun e => e.elim (by omega) (by omega)) HZ7.out)
              have HF8 := Lib.hid (own_kp HF7.out hk8 (fun i hi e => e.elim (by omega) (by omega)))
              have hs8 := hk8.size
              clear q8 o8 r8
              cases ht3 : takeR [93, 41] r6 with
              | none =>
                have HN : Hid (nodeR r = none) := Lib.hid (by rw [hnr, ht3]; rfl)
                go_wp2_with (go_at_call 159; (with_reducible refine (take_any g8 ⟨#[93, 41]⟩).mono ?_); rw [show takeR (⟨#[93, 41]⟩ : ByteArray).data.toList r6 = none from ht3]; rintro e9 w9 ⟨rfl, hk9⟩)
                exact ⟨rfl, HB.out _ HN.out (HK8.out.trans hk9)⟩
              | some r7 =>
                have HN : Hid (nodeR r = some (.host tag al d .nil, r7)) := Lib.hid (by rw [hnr, ht3]; rfl)
                go_wp2_with (first
                  | (go_at_call 159; (with_reducible refine (take_any g8 ⟨#[93, 41]⟩).mono ?_); rw [show takeR (⟨#[93, 41]⟩ : ByteArray).data.toList r6 = some r7 from ht3]; rintro e9 w9 ⟨v9, rfl, rfl, g9, hk9⟩)
                  | (refine wpList_load_row rfl 58 _ rfl q rfl 58 #[.int .i64 0, .string ⟨tag.toArray⟩, .string ⟨#[]⟩, .slice a3 al.length c3, .slice a4 vss.length c4] (0, 0) _ (kp_blk hk9 hqR HQ8.out) Tryz.underlying58 rfl size_node ?_)
                  | (refine wpList_store_row rfl 58 _ _ rfl W.heap.size _ rfl rfl 58 zeroN (kp_blk hk9 (by omega) HZ8.out) size_node rfl (by simp [Value.oneCell']) ?_))
                refine bodyPost_ret (results_cell_row Tryz.results136 _ _ W.heap.size 58 _ (0, 0) _ rfl (setRow_heap _ _ _ _ _ _ (kp_blk hk9 (by omega) HZ8.out)) Tryz.underlying58 rfl size_node) rfl ?_
                have hs9 := hk9.size
                refine HO.out _ _ _ _ _ _ _ _ _ _ _ w9 HN.out g9 (HK8.out.trans hk9) ⟨_, _, vss, [], rfl, ?_, ?_, ?_, rfl⟩
                · exact (Sl.of_own HF8.out).keep hs9 fun b hb hok => ⟨by have := hok.1; omega, hk9.block b hb (by have := hok.1; omega)⟩
                · exact (Sl.of_own HO8.out).keep hs9 fun b hb hok => ⟨by have := hok.1; omega, hk9.block b hb (by have := hok.1; omega)⟩
                · exact HD8.out.keep hs9 fun b hb hok => ⟨by have := hok.1; omega, hk9.block b hb (by have := hok.1; omega)⟩

theorem node_any {w0 : World} {R : Nat} (ht : STabs w0) : ∀ (N : Nat), N ≤ 1073741824 → ∀ (r : Str) (W : World), r.length ≤ N → RD w0 R r W → Calls Tryz.prog 136 #[rp R] W (PostV w0 R W (FNode W.heap.size) (nodeR r)) := by
  intro N
  induction N with
  | zero =>
    intro hN r W hl h
    exact node_step ht h (by omega) fun q r5 W5 p0 p1 p2 p3 hlt _ _ _ _ => by omega
  | succ N ih =>
    intro hN r W hl h
    exact node_step ht h (by omega) fun q r5 W5 p0 p1 p2 p3 hlt h5 hq hqR hq0 => nodesN_any (ih (by omega)) p0 p1 p2 p3 h5 (by omega) (by omega) hq hqR hq0
end Go.Proofs.YtajmdhcknmmbbaaGreatDoor.Sh
