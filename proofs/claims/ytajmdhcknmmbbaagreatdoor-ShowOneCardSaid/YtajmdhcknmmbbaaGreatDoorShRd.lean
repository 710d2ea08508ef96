/-
  Walks: show.Read of any text: the nodes whose text it is, or none; what is caught.
  Conditions: the text has 1048576 bytes at most; the tables hold what the program's text lays in them.
-/
import Derived.Test.YtajmdhcknmmbbaaGreatDoorSMi
import Derived.Test.YtajmdhcknmmbbaaGreatDoorSMe
import Derived.Defers
import Derived.Recover
namespace Go.Proofs.YtajmdhcknmmbbaaGreatDoor.Sh
set_option linter.unusedVariables false
set_option linter.unusedSimpArgs false
open Go.Proofs.YtajmdhcknmmbbaaGreatDoor Go.ChangeShapes Go.WideShapes Go.RowKit Go.Deep

theorem catch_idle (p0 p1 : Value) (w : World) :
    CallsD Tryz.prog 84 #[p0, p1] .returning w fun e u' w' => e = .returned (.tuple #[]) ∧ u' = .returning ∧ w' = w := by
  refine callsD_of_wpS Tryz.func84 rfl fun c₀ cs hu => ?_
  apply wpS_seq
  apply wpS_region
  simp [wpOpsS, go_sem, recoverD, hu, Tryz.ntmps84, Exit.thenS]
  refine wpS_cond (t := false) (by simp [Act.eval, Array.replicate]) ?_
  simp only [Bool.false_eq_true, if_false]
  refine wpS_of_wp (wp_skip ?_)
  cases c₀
  simp_all [bodyPostS, results, Tryz.results84]

set_option maxRecDepth 100000 in
set_option maxHeartbeats 4000000 in
theorem catch_pz (w : World) (lb eb : Nat) (x0 x1 : Value) (cl : w.heap[lb]? = some (.cells #[x0] 22 (0, 0))) (ce : w.heap[eb]? = some (.cells #[x1] 49 (0, 0))) (hle : lb ≠ eb) :
    CallsD Tryz.prog 84 #[.pointer (some ⟨lb, 0, none⟩), .pointer (some ⟨eb, 0, none⟩)] (.panicking [pz]) w fun e u' w' =>
      e = .returned (.tuple #[]) ∧ u' = .panicking [{ v := .iface 85 (.agg #[]), recovered := true }] ∧ w' = (w.setCell ⟨lb, 0, none⟩ (.slice none 0 0)).setCell ⟨eb, 0, none⟩ (.int .i64 5) := by
  have l0 : w.cell? ⟨lb, 0, none⟩ = some x0 := by rw [Lib.cell_of_heap cl]; rfl
  have e0 : w.cell? ⟨eb, 0, none⟩ = some x1 := by rw [Lib.cell_of_heap ce]; rfl
  have fl := Lib.frozen_of_heap cl 0
  have fe := Lib.frozen_of_heap ce 0
  clear cl ce
  refine callsD_of_wpS Tryz.func84 rfl fun c₀ cs hu => ?_
  apply wpS_seq
  apply wpS_region
  simp [wpOpsS, go_sem, recoverD, hu, pz, Tryz.ntmps84, Exit.thenS]
  refine wpS_cond (t := true) (by simp [Act.eval, Array.replicate]) ?_
  simp only [if_true]
  refine wpS_of_wp ?_
  go_wp2_with fail
  simp [bodyPostS, results, Tryz.results84]
theorem blk1 {b : Nat} {w : World} {x : Value} {ty : TypeId} (h : w.heap[b]? = some (.cells #[x] ty (0, 0))) : w.cell? ⟨b, 0, none⟩ = some x ∧ w.frozen? ⟨b, 0, none⟩ = false := ⟨by rw [Lib.cell_of_heap h]; rfl, Lib.frozen_of_heap h 0⟩
theorem set1 {b : Nat} {w : World} {x v : Value} {ty : TypeId} (h : w.heap[b]? = some (.cells #[x] ty (0, 0))) : (w.setCell ⟨b, 0, none⟩ v).heap[b]? = some (.cells #[v] ty (0, 0)) := by
  simp [World.setCell, Array.getElem?_modify, h]
/-- WHAT Read COMES TO: none; or the nodes, whose text it is. -/
def PostRead (r : Str) (W : World) (e : Ending) (w' : World) : Prop :=
  Below W.heap.size W w' ∧
  ((e = .returned (.tuple #[.slice none 0 0, .int .i64 5]) ∧ ∀ d r', rdR r = some (d, r') → ¬ (d.good ∧ d.tx true = r)) ∨
   ∃ d r' a n c K, rdR r = some (d, r') ∧ e = .returned (.tuple #[.slice a n c, .int .i64 0]) ∧ (n ≤ c ∧ c ≤ maxLen) ∧ NsIn w' a n K ∧ (∀ i, i < n → (K i).zero) ∧ (∀ e : D, (∀ i, i < n → (K i).may = true) → conTo n (fun i => (K i).con) e = d.norm.app e) ∧ textN n K = r ∧ d.sane ∧ n = d.len)
theorem rep_len {W : World} {ok : Nat → Prop} : ∀ (d : D) (vss : List (List Value)), DRep W ok d vss → vss.length = d.len := by
  intro d
  induction d with
  | nil => intro vss h; rw [show vss = [] from h]; rfl
  | txt s m ih => rintro vss ⟨_, _, _, _, t, rfl, _, h⟩; simp [D.len, ih t h]
  | host t al k m ihk ihm => rintro vss ⟨_, _, _, t, rfl, _, _, _, h⟩; simp [D.len, ihm t h]
theorem ns_of {W : World} {ok : Nat → Prop} {n : Nat} {vss : List (List Value)} {v : Value} {K : Nat → N} (hl : vss.length = n) (h : Sl W ok 5 n vss.flatten v) (hK : ∀ i, i < vss.length → vss[i]? = some (K i).cells ∧ (K i).In W ∧ (K i).zero) : ∃ a c, v = .slice a n c ∧ (n ≤ c ∧ c ≤ maxLen) ∧ NsIn W a n K := by
  obtain ⟨a, c, e, h1, h2, h3, h4⟩ := h
  refine ⟨a, c, e, ⟨h1, h2⟩, fun i hi => ⟨?_, (hK i (by omega)).2.1⟩⟩
  rcases h4 with ⟨-, h0⟩ | ⟨g, e1, hok, hlt, hc⟩
  · omega
  · refine ⟨g, 0, e1, fun j hj => ?_⟩
    have hfive : ∀ x ∈ vss, x.length = 5 := fun x hx => by
      obtain ⟨q, hq, hqx⟩ := List.getElem_of_mem hx
      have := (hK q hq).1
      rw [List.getElem?_eq_getElem hq] at this
      injection this with this
      rw [← hqx, this]
      have hin := (hK q hq).2.1
      cases hKq : K q with
      | leaf => rw [hKq] at hin; exact hin.elim
      | mk => rfl
    have hkc := (hK i (by omega)).1
    have h5 : (K i).cells.length = 5 := hfive _ (List.mem_of_getElem? hkc)
    have flat5_get : ∀ (vss : List (List Value)), (∀ x ∈ vss, x.length = 5) → ∀ (i j : Nat) (x : List Value), vss[i]? = some x → j < 5 → vss.flatten[i * 5 + j]? = x[j]? := by
      intro vss
      induction vss with
      | nil => intro _ i j x h; simp at h
      | cons y l ih =>
        intro hl i j x h hj
        have hy := hl y (List.mem_cons_self ..)
        cases i with
        | zero =>
          simp at h; subst h
          rw [List.flatten_cons, Nat.zero_mul, Nat.zero_add, List.getElem?_append_left (by omega)]
        | succ i =>
          rw [List.flatten_cons, List.getElem?_append_right (by omega), hy, ← ih (fun z hz => hl z (List.mem_cons_of_mem _ hz)) i j x (by simpa using h) hj]
          congr 1
          omega
    have := flat5_get vss hfive i j _ hkc (by omega)
    have hx : (K i).cells[j]? = some ((K i).cells[j]'hj) := List.getElem?_eq_getElem _
    rw [hx] at this ⊢
    rw [Nat.zero_add]
    exact hc _ _ this

/-- A variable that is stored as it is. -/
theorem same_set {b : Nat} {w : World} {x : Value} {ty : TypeId} (h : w.heap[b]? = some (.cells #[x] ty (0, 0))) : ∀ i : Nat, (w.setCell ⟨b, 0, none⟩ x).heap[i]? = w.heap[i]? := fun i => by
  by_cases hi : i = b
  · subst hi; rw [set1 h, h]
  · exact Below.heap_setCell _ _ _ _ (by show i ≠ b; exact hi)
theorem NsIn.same {w w' : World} {a : Option Addr} {n : Nat} {K : Nat → N} (h : NsIn w a n K) (hh : ∀ i, i < w.heap.size → w'.heap[i]? = w.heap[i]?) : NsIn w' a n K := fun i hi => by
  have hc : ∀ a : Addr, a.block < w.heap.size → w'.cell? a = w.cell? a := fun a ha => World.cell?_of_block (hh a.block ha)
  obtain ⟨⟨b, o, e1, ha⟩, hi'⟩ := h i hi
  exact ⟨⟨b, o, e1, ha.mono hc⟩, hi'.mono hc⟩
set_option maxRecDepth 100000 in
set_option maxHeartbeats 8000000 in
theorem read_any (s : ByteArray) (W : World) (hs : s.size ≤ 1048576) (ht : Tabs W) (hst : STabs W) :
    Calls Tryz.prog 20 #[.string s] W (PostRead s.data.toList W) := by
  have hmf : ∀ (fn : Fn) (first cap : Array Value) (w : World), (Instr.makeFunc fn first cap).run Tryz.prog w = .ok (.func fn first cap) w := fun _ _ _ _ => rfl
  have hslen : s.data.toList.length = s.size := by simp
  obtain ⟨n, hn⟩ : ∃ n, W.heap.size = n := ⟨_, rfl⟩
  obtain ⟨Wa, hWa⟩ : ∃ Wa, (W.alloc (.cells #[.slice none 0 0] 22)).alloc (.cells #[.int .i64 0] 49) = Wa := ⟨_, rfl⟩
  obtain ⟨Wd, hWd⟩ : ∃ Wd, Wa.alloc (.cells #[.string s] 82) = Wd := ⟨_, rfl⟩
  have hza : Wa.heap.size = n + 2 := by rw [← hWa, ← hn]; simp
  have hzd : Wd.heap.size = n + 3 := by rw [← hWd]; simp [hza]
  have hba : Below n W Wa := by rw [← hWa, ← hn]; exact (((Below.refl _ _).alloc (Nat.le_refl _) _).alloc (by simp) _)
  have hbd : Below n W Wd := by rw [← hWd]; exact hba.alloc (by omega) _
  have hl0 : Wa.heap[n]? = some (.cells #[.slice none 0 0] 22 (0, 0)) := by
    rw [← hWa, ← hn, Below.heap_alloc _ _ _ (by simp)]; exact heap_alloc_new _ _
  have he0 : Wa.heap[n + 1]? = some (.cells #[.int .i64 0] 49 (0, 0)) := by
    rw [← hWa, ← hn]; have := heap_alloc_new (W.alloc (.cells #[.slice none 0 0] 22)) (.cells #[.int .i64 0] 49); simpa using this
  have hld : Wd.heap[n]? = some (.cells #[.slice none 0 0] 22 (0, 0)) := by rw [← hWd, Below.heap_alloc _ _ _ (by omega)]; exact hl0
  have hed : Wd.heap[n + 1]? = some (.cells #[.int .i64 0] 49 (0, 0)) := by rw [← hWd, Below.heap_alloc _ _ _ (by omega)]; exact he0
  have hrd : RD W (n + 2) s.data.toList Wd := ⟨by rw [← hWd, ← hza, show (⟨s.data.toList.toArray⟩ : ByteArray) = s from ba_ext (by simp)]; exact heap_alloc_new _ _, by omega, by rw [hn]; exact hbd⟩
  have HND := Lib.hid (nodesR_any (node_any (R := n + 2) hst 1048576 (by decide)) hrd (by omega) (by decide) hld (by omega) (by omega))
  have HED : Hid (∀ w5, Kp (fun i => i = n + 2 ∨ i = n) Wd w5 → w5.heap[n + 1]? = some (.cells #[.int .i64 0] 49 (0, 0)) ∧ Below n W w5) := Lib.hid fun w5 hk => ⟨kp_blk hk (fun e => by omega) hed, hbd.trans (hk.to_below (by omega) (fun i hi e => by omega))⟩
  obtain ⟨post, hpost⟩ : ∃ p, PostRead s.data.toList W = p := ⟨_, rfl⟩
  rw [hpost]
  have HBAD : Hid (∀ w', Below n W w' → (∀ d r', rdR s.data.toList = some (d, r') → ¬ (d.good ∧ d.tx true = s.data.toList)) → post (.returned (.tuple #[.slice none 0 0, .int .i64 5])) w') := Lib.hid fun w' h1 h2 => by rw [← hpost]; exact ⟨by rw [hn]; exact h1, .inl ⟨rfl, h2⟩⟩
  have HTK := Lib.hid (fun d r' (h : rdR s.data.toList = some (d, r')) => rdR_take h (by omega))
  have HRE : Hid (post = PostRead s.data.toList W) := Lib.hid hpost.symm
  have HNN := Lib.hid hn
  have HTB : Hid (∀ w', Below n W w' → Tabs w') := Lib.hid fun w' hb => ht.below (by rw [hn]; exact hb)
  clear hpost hld hed hl0 he0 hrd hba hbd
  have hE0 := Nat.le_of_eq hza
  go_enter_defers Tryz.func20, Tryz.ntmps20
  go_upto_region 3 with fail
  cases hrr : rdR s.data.toList with
  | none =>
    rw [hrr] at HND
    go_wp2_with (go_at_call 85; (with_reducible refine HND.out.mono ?_); rintro e5 w5 ⟨rfl, hk5, v5, hb5⟩)
    obtain ⟨he5, hlow5⟩ := HED.out _ hk5
    refine leaves_cons (f := 84) (args := #[.pointer (some ⟨n, 0, none⟩), .pointer (some ⟨n + 1, 0, none⟩)]) (by simp) (by simp [go_sem]) ?_
    refine (catch_pz w5 n (n + 1) _ _ hb5 he5 (by omega)).mono ?_
    rintro e u' w'' ⟨rfl, rfl, rfl⟩
    have hs1 := set1 (v := .slice none 0 0) hb5
    have hs2 : (w5.setCell ⟨n, 0, none⟩ (.slice none 0 0)).heap[n + 1]? = some (.cells #[.int .i64 0] 49 (0, 0)) := (Below.heap_setCell _ _ _ _ (by show n + 1 ≠ n; omega)).trans he5
    have y1 := (blk1 (set1 (v := .int .i64 5) hs2)).1
    have y0 : ((w5.setCell ⟨n, 0, none⟩ (.slice none 0 0)).setCell ⟨n + 1, 0, none⟩ (.int .i64 5)).cell? ⟨n, 0, none⟩ = some (.slice none 0 0) := (blk1 ((Below.heap_setCell _ _ _ _ (by show n ≠ n + 1; omega)).trans hs1)).1
    have hb9 : Below n W ((w5.setCell ⟨n, 0, none⟩ (.slice none 0 0)).setCell ⟨n + 1, 0, none⟩ (.int .i64 5)) := (hlow5.setCell (p := ⟨n, 0, none⟩) (Nat.le_refl _) _).setCell (p := ⟨n + 1, 0, none⟩) (Nat.le_succ _) _
    revert y0 y1 hb9
    clear hs1 hs2
    generalize (World.setCell (World.setCell w5 _ _) _ _) = W9
    intro y0 y1 hb9
    simp [Leaves, settle, results, Tryz.results20, go_sem, *]
    exact HBAD.out _ hb9 (fun d r' h => by rw [hrr] at h; cases h)
  | some y =>
    obtain ⟨d, r6⟩ := y
    rw [hrr] at HND
    obtain ⟨htk1, htk2⟩ := HTK.out d r6 hrr
    go_upto_region 4 with (go_at_call 85; (with_reducible refine HND.out.mono ?_); rintro e5 w5 ⟨rfl, g5, hk5, v5, vss, hb5, ho5, hr5⟩)
    obtain ⟨he5, hlow5⟩ := HED.out _ hk5
    have hs5 := hk5.size
    obtain ⟨K, hK1, hK2, hK3⟩ := rep_nodes d vss hr5 htk2
    have HLN := Lib.hid (rep_len d vss hr5)
    obtain ⟨a5, c5, hv5, hlc5, hns5⟩ := ns_of (n := vss.length) rfl (Sl.of_own ho5) hK1
    subst hv5
    have hmtx : (∀ i, i < vss.length → (K i).may = true) → sepTo vss.length (fun i => (K i).tx) = d.tx true := fun hm => by
      rw [← tx_all K vss.length hm, hK2 .nil hm, D.app_nil, tx_norm]
    have hlen : (textN vss.length K).length ≤ 140737488355328 := by
      unfold textN
      split
      · rename_i hm
        rw [hmtx (allB_true.1 hm)]
        have := htk1 true
        omega
      · exact Nat.zero_le _
    have HTX := Lib.hid (text_show a5 vss.length c5 K w5 hns5 hlc5 (HTB.out _ hlow5) hlen)
    obtain ⟨z0, f0⟩ := blk1 hb5
    have HNS := Lib.hid hns5
    have HHE := Lib.hid he5
    have HHB := Lib.hid hb5
    have HK1 := Lib.hid hK1
    have HK2 := Lib.hid hK2
    have HK3 := Lib.hid hK3
    have HMT := Lib.hid hmtx
    clear hK1 hK2 hK3 hmtx hns5 he5 hb5 hr5 ho5
    by_cases htx : textN vss.length K = s.data.toList
    · rw [htx, show (⟨s.data.toList.toArray⟩ : ByteArray) = s from ba_ext (by simp)] at HTX
      have e2 : (s.toList != s.toList) = false := by simp
      have hsame : ∀ w6, Below w5.heap.size w5 w6 → (w6.heap[n]? = some (.cells #[.slice a5 vss.length c5] 22 (0, 0)) ∧ w6.heap[n + 1]? = some (.cells #[.int .i64 0] 49 (0, 0))) := fun w6 hb => ⟨(hb.block n (by omega)).trans HHB.out, (hb.block (n + 1) (by omega)).trans HHE.out⟩
      have HSM := Lib.hid hsame
      clear hsame
      go_wp2_with (go_at_call 14; (with_reducible refine HTX.out.mono ?_); rintro e6 w6 ⟨rfl, hb6⟩; obtain ⟨p0, q0⟩ := blk1 (HSM.out _ hb6).1; obtain ⟨p1, q1⟩ := blk1 (HSM.out _ hb6).2)
      obtain ⟨hx1, hx2⟩ := HSM.out _ hb6
      refine leaves_cons (f := 84) (args := #[.pointer (some ⟨n, 0, none⟩), .pointer (some ⟨n + 1, 0, none⟩)]) (by simp) (by simp [go_sem]) ?_
      refine (catch_idle _ _ _).mono ?_
      rintro e u' w'' ⟨rfl, rfl, rfl⟩
      have hy2 : (w6.setCell ⟨n, 0, none⟩ (.slice a5 vss.length c5)).heap[n + 1]? = some (.cells #[.int .i64 0] 49 (0, 0)) := (same_set hx1 _).trans hx2
      have hall : ∀ i : Nat, ((w6.setCell ⟨n, 0, none⟩ (.slice a5 vss.length c5)).setCell ⟨n + 1, 0, none⟩ (.int .i64 0)).heap[i]? = w6.heap[i]? := fun i => (same_set hy2 i).trans (same_set hx1 i)
      have y0 := (blk1 ((hall n).trans hx1)).1
      have y1 := (blk1 ((hall (n + 1)).trans hx2)).1
      have hb9 : Below n W ((w6.setCell ⟨n, 0, none⟩ (.slice a5 vss.length c5)).setCell ⟨n + 1, 0, none⟩ (.int .i64 0)) := ((hlow5.trans (hb6.mono (by omega))).setCell (p := ⟨n, 0, none⟩) (Nat.le_refl _) _).setCell (p := ⟨n + 1, 0, none⟩) (Nat.le_succ _) _
      have hns9 := NsIn.same (w' := (w6.setCell ⟨n, 0, none⟩ (.slice a5 vss.length c5)).setCell ⟨n + 1, 0, none⟩ (.int .i64 0)) HNS.out fun i hi => (hall i).trans (hb6.block i hi)
      revert y0 y1 hb9 hns9
      clear hall hy2 p0 q0 p1 q1 z0 f0 hx1 hx2
      generalize (World.setCell (World.setCell w6 _ _) _ _) = W9
      intro y0 y1 hb9 hns9
      simp [Leaves, settle, results, Tryz.results20, go_sem, *]
      rw [HRE.out]
      exact ⟨by rw [HNN.out]; exact hb9, .inr ⟨d, r6, a5, vss.length, c5, K, hrr, rfl, hlc5, hns9, fun i hi => (HK1.out i hi).2.2, HK2.out, htx, htk2, HLN.out⟩⟩
    · obtain ⟨t, hteq⟩ : ∃ t, (⟨(textN vss.length K).toArray⟩ : ByteArray) = t := ⟨_, rfl⟩
      rw [hteq] at HTX
      have e2 : (t.toList != s.toList) = true := by
        rw [bne_iff_ne, Lib.toList_data, Lib.toList_data, ← hteq, ba_list]; exact htx
      have e3 : (t.toList == s.toList) = false := by
        rw [beq_eq_false_iff_ne, Lib.toList_data, Lib.toList_data, ← hteq, ba_list]; exact htx
      have hno : ∀ d' r', rdR s.data.toList = some (d', r') → ¬ (d'.good ∧ d'.tx true = s.data.toList) := fun d' r' h hg => by
        rw [hrr] at h
        injection h with h
        injection h with h1 h2
        subst h1
        have hm := HK3.out hg.1
        refine htx ?_
        rw [textN, if_pos (allB_true.2 hm), HMT.out hm]
        exact hg.2
      have HNO := Lib.hid hno
      clear hteq hno htx
      go_wp2_with (go_at_call 14; (with_reducible refine HTX.out.mono ?_); rintro e6 w6 ⟨rfl, hb6⟩)
      have hx1 := (hb6.block n (by omega)).trans HHB.out
      have hx2 := (hb6.block (n + 1) (by omega)).trans HHE.out
      have hlow6 := hlow5.trans (hb6.mono (show n ≤ w5.heap.size by omega))
      refine leaves_cons (f := 84) (args := #[.pointer (some ⟨n, 0, none⟩), .pointer (some ⟨n + 1, 0, none⟩)]) (by simp) (by simp [go_sem]) ?_
      refine (catch_pz w6 n (n + 1) _ _ hx1 hx2 (by omega)).mono ?_
      rintro e u' w'' ⟨rfl, rfl, rfl⟩
      have hs1 := set1 (v := .slice none 0 0) hx1
      have hs2 : (w6.setCell ⟨n, 0, none⟩ (.slice none 0 0)).heap[n + 1]? = some (.cells #[.int .i64 0] 49 (0, 0)) := (Below.heap_setCell _ _ _ _ (by show n + 1 ≠ n; omega)).trans hx2
      have y1 := (blk1 (set1 (v := .int .i64 5) hs2)).1
      have y0 : ((w6.setCell ⟨n, 0, none⟩ (.slice none 0 0)).setCell ⟨n + 1, 0, none⟩ (.int .i64 5)).cell? ⟨n, 0, none⟩ = some (.slice none 0 0) := (blk1 ((Below.heap_setCell _ _ _ _ (by show n ≠ n + 1; omega)).trans hs1)).1
      have hb9 : Below n W ((w6.setCell ⟨n, 0, none⟩ (.slice none 0 0)).setCell ⟨n + 1, 0, none⟩ (.int .i64 5)) := (hlow6.setCell (p := ⟨n, 0, none⟩) (Nat.le_refl _) _).setCell (p := ⟨n + 1, 0, none⟩) (Nat.le_succ _) _
      revert y0 y1 hb9
      clear hs1 hs2
      generalize (World.setCell (World.setCell w6 _ _) _ _) = W9
      intro y0 y1 hb9
      simp [Leaves, settle, results, Tryz.results20, go_sem, *]
      exact HBAD.out _ hb9 HNO.out
end Go.Proofs.YtajmdhcknmmbbaaGreatDoor.Sh
