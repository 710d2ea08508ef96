/-
  Walks: SameNodes, SameNode of the laws answer 'N.same'; old memory is as it was.
  Conditions: what is held against one another lies in memory.
-/
import Derived.Test.YtajmdhcknmmbbaaGreatDoorShM
import Derived.Test.YtajmdhcknmmbbaaGreatDoorSvA
import Derived.Deep.Cut
namespace Go.Proofs.YtajmdhcknmmbbaaGreatDoor.Sh
set_option linter.unusedVariables false
set_option linter.unusedSimpArgs false
open Go.Proofs.YtajmdhcknmmbbaaGreatDoor Go.RowKit Go.Deep Go.WideShapes

/-- Are two attributes, two nodes the same? -/
def fsB (al1 : Nat) (an1 : Nat → ByteArray) (A1 : Nat → V) (al2 : Nat) (an2 : Nat → ByteArray) (A2 : Nat → V) : Bool := decide (al1 = al2) && allB al1 (fun i => decide (an1 i = an2 i) && (A1 i).same (A2 i))
def N.same : N → N → Bool
  | .mk id1 tg1 tx1 _ al1 _ an1 A1 _ kl1 _ K1, .mk id2 tg2 tx2 _ al2 _ an2 A2 _ kl2 _ K2 => decide (id1 = id2) && (decide (tg1 = tg2) && (decide (tx1 = tx2) && (fsB al1 an1 A1 al2 an2 A2 && (decide (kl1 = kl2) && allB kl1 (fun i => (K1 i).same (K2 i))))))
  | _, _ => false
/-- What SameNode's contract says of one node. -/
def SnOk (v : N) : Prop := ∀ (u : N) (w : World), v.In w → u.In w → Calls Tryz.prog 32 #[v.agg, u.agg] w fun x w' => x = .returned (.bool (v.same u)) ∧ Below w.heap.size w w'
theorem at_belowN {w w' : World} {b o : Nat} {cs : List Value} (h : At w b o cs) (hb : Below w.heap.size w w') : At w' b o cs := h.mono fun _ ha => hb.cell ha

set_option maxRecDepth 100000 in
set_option maxHeartbeats 2000000 in
theorem sns_any (w : World) (la la' : Option Addr) (ll lc ll' lc' : Nat) (L L' : Nat → N) (ih : ∀ i, i < ll → SnOk (L i)) (hcap : ll ≤ 9223372036854775807) (hcap' : ll' ≤ 9223372036854775807)
    (h : ∀ i, i < ll → (∃ b o, la = some ⟨b, o, none⟩ ∧ At w b (o + i * 5) (L i).cells) ∧ (L i).In w) (h' : ∀ i, i < ll' → (∃ b o, la' = some ⟨b, o, none⟩ ∧ At w b (o + i * 5) (L' i).cells) ∧ (L' i).In w) :
    Calls Tryz.prog 16 #[.slice la ll lc, .slice la' ll' lc'] w fun x w' => x = .returned (.bool (decide (ll = ll') && allB ll (fun i => (L i).same (L' i)))) ∧ Below w.heap.size w w' := by
  by_cases hl : ll = ll'
  · have HC := Lib.hid (show ∀ i, i < ll → ∀ W, Below w.heap.size w W → Calls Tryz.prog 32 #[(L i).agg, (L' i).agg] W fun x w' => x = .returned (.bool ((fun i => (L i).same (L' i)) i)) ∧ Below W.heap.size W w' from fun i hi W hb => ih i hi (L' i) W ((h i hi).2.below hb) ((h' i (hl ▸ hi)).2.below hb))
    have R1 : Hid (HeldTo ll (fun i => (L i).same (L' i)) → Ending.returned (.bool true) = .returned (.bool (decide (ll = ll') && allB ll (fun i => (L i).same (L' i))))) := fun q => by rw [decide_eq_true hl, q.all]; rfl
    have R0 : Hid (∀ i, i < ll → (fun i => (L i).same (L' i)) i = false → Ending.returned (.bool false) = .returned (.bool (decide (ll = ll') && allB ll (fun i => (L i).same (L' i))))) := fun i hi q => by rw [allB_false hi q, Bool.and_false]
    have HL := Lib.hid h
    have HL' := Lib.hid (hl ▸ h' : ∀ i, i < ll → (∃ b o, la' = some ⟨b, o, none⟩ ∧ At w b (o + i * 5) (L' i).cells) ∧ (L' i).In w)
    clear h h' ih
    subst hl
    generalize (decide (ll = ll) && allB ll (fun i => (L i).same (L' i))) = ans at R1 R0 ⊢
    go_enter Tryz.func16, Tryz.ntmps16
    go_wp2_with fail
    go_loopw [5] (fun i wr => ∃ j : Nat, j ≤ ll ∧ i = .int .i64 j ∧ HeldTo j (fun i => (L i).same (L' i)) ∧ Below w.heap.size w wr) (fun i _ => ll - (intOf i).toNat)
    case atStart => exact ⟨0, Nat.zero_le _, rfl, HeldTo.zero, Below.refl _ _⟩
    case round =>
    obtain ⟨j, hj, rfl, hheld, hbw⟩ := hrel
    have HH := Lib.hid hheld
    have HB := Lib.hid hbw
    clear hheld hbw
    by_cases hlt : j < ll
    · have hlt' : (j : Int) < (ll : Int) := by omega
      have hj0 : (0 : Int) ≤ (j : Int) := by omega
      obtain ⟨⟨b1, o1, rfl, hat⟩, hin⟩ := HL.out j hlt
      obtain ⟨⟨b2, o2, rfl, hat'⟩, hin'⟩ := HL'.out j hlt
      have HE := Lib.hid (HC.out j hlt)
      have R0j := Lib.hid (R0.out j hlt)
      have HHs := Lib.hid (fun q => HH.out.succ (k := j) q)
      obtain ⟨p, hp⟩ : ∃ p, p = (fun i => (L i).same (L' i)) j := ⟨_, rfl⟩
      simp only [] at hp
      rw [← hp] at HE R0j HHs
      clear hp
      obtain ⟨v, hv⟩ : ∃ v, L j = v := ⟨_, rfl⟩
      obtain ⟨u, hu⟩ : ∃ u, L' j = u := ⟨_, rfl⟩
      rw [hv] at hat hin HE
      rw [hu] at hat' hin' HE
      cases v with
      | leaf => exact hin.elim
      | mk id1 tg1 tx1 aa1 al1 ac1 an1 A1 ka1 kl1 kc1 K1 =>
      cases u with
      | leaf => exact hin'.elim
      | mk id2 tg2 tx2 aa2 al2 ac2 an2 A2 ka2 kl2 kc2 K2 =>
      have KS : Hid (∀ W, Below wr.heap.size wr W → (fun W => Below wr.heap.size wr W ∧ W.cell? ⟨b1, o1 + j * 5, none⟩ = some (.int .i64 id1) ∧ W.cell? ⟨b1, o1 + j * 5 + 1, none⟩ = some (.string tg1) ∧ W.cell? ⟨b1, o1 + j * 5 + 2, none⟩ = some (.string tx1) ∧ W.cell? ⟨b1, o1 + j * 5 + 3, none⟩ = some (.slice aa1 al1 ac1) ∧ W.cell? ⟨b1, o1 + j * 5 + 4, none⟩ = some (.slice ka1 kl1 kc1) ∧ W.cell? ⟨b2, o2 + j * 5, none⟩ = some (.int .i64 id2) ∧ W.cell? ⟨b2, o2 + j * 5 + 1, none⟩ = some (.string tg2) ∧ W.cell? ⟨b2, o2 + j * 5 + 2, none⟩ = some (.string tx2) ∧ W.cell? ⟨b2, o2 + j * 5 + 3, none⟩ = some (.slice aa2 al2 ac2) ∧ W.cell? ⟨b2, o2 + j * 5 + 4, none⟩ = some (.slice ka2 kl2 kc2)) W) := fun W hb => by
        have ha := at_belowN hat (HB.out.trans (hb.mono HB.out.size))
        have hb2 := at_belowN hat' (HB.out.trans (hb.mono HB.out.size))
        exact ⟨hb, ha 0 (by simp [N.cells]), ha 1 (by simp [N.cells]), ha 2 (by simp [N.cells]), ha 3 (by simp [N.cells]), ha 4 (by simp [N.cells]), hb2 0 (by simp [N.cells]), hb2 1 (by simp [N.cells]), hb2 2 (by simp [N.cells]), hb2 3 (by simp [N.cells]), hb2 4 (by simp [N.cells])⟩
      have hS0 := KS.out _ (Below.refl _ _)
      simp only [N.agg, N.cells] at HE
      clear hin hin' hat hat'
      cases p with
      | true =>
        go_wp2_with fail
        go_region_held3 (fun W => Below wr.heap.size wr W ∧ W.cell? ⟨b1, o1 + j * 5, none⟩ = some (.int .i64 id1) ∧ W.cell? ⟨b1, o1 + j * 5 + 1, none⟩ = some (.string tg1) ∧ W.cell? ⟨b1, o1 + j * 5 + 2, none⟩ = some (.string tx1) ∧ W.cell? ⟨b1, o1 + j * 5 + 3, none⟩ = some (.slice aa1 al1 ac1) ∧ W.cell? ⟨b1, o1 + j * 5 + 4, none⟩ = some (.slice ka1 kl1 kc1) ∧ W.cell? ⟨b2, o2 + j * 5, none⟩ = some (.int .i64 id2) ∧ W.cell? ⟨b2, o2 + j * 5 + 1, none⟩ = some (.string tg2) ∧ W.cell? ⟨b2, o2 + j * 5 + 2, none⟩ = some (.string tx2) ∧ W.cell? ⟨b2, o2 + j * 5 + 3, none⟩ = some (.slice aa2 al2 ac2) ∧ W.cell? ⟨b2, o2 + j * 5 + 4, none⟩ = some (.slice ka2 kl2 kc2))
          (first | exact KS.out _ ((Below.refl _ _).drew) | exact KS.out _ (Below.trans (And.left (by assumption)) (Below.mono (by assumption) (Below.size (And.left (by assumption))))))
          (first | (go_at_call 32; refine (HE.out _ ?_).mono ?_; (go_split_ands; exact Below.trans HB.out (Below.mono (by assumption) HB.out.size)); rintro x w1 ⟨rfl, hb1⟩))
        have hfin : Hid (Below w.heap.size w _) := HB.out.trans (Below.mono (And.left (by assumption)) HB.out.size)
        go_wp2_with fail
        go_roundw
        case rel => exact ⟨j + 1, by omega, by go_num, HHs.out (by trivial), hfin.out⟩
        case measure => simp [intOf]; omega
      | false =>
        go_wp2_with fail
        go_region_held3 (fun W => Below wr.heap.size wr W ∧ W.cell? ⟨b1, o1 + j * 5, none⟩ = some (.int .i64 id1) ∧ W.cell? ⟨b1, o1 + j * 5 + 1, none⟩ = some (.string tg1) ∧ W.cell? ⟨b1, o1 + j * 5 + 2, none⟩ = some (.string tx1) ∧ W.cell? ⟨b1, o1 + j * 5 + 3, none⟩ = some (.slice aa1 al1 ac1) ∧ W.cell? ⟨b1, o1 + j * 5 + 4, none⟩ = some (.slice ka1 kl1 kc1) ∧ W.cell? ⟨b2, o2 + j * 5, none⟩ = some (.int .i64 id2) ∧ W.cell? ⟨b2, o2 + j * 5 + 1, none⟩ = some (.string tg2) ∧ W.cell? ⟨b2, o2 + j * 5 + 2, none⟩ = some (.string tx2) ∧ W.cell? ⟨b2, o2 + j * 5 + 3, none⟩ = some (.slice aa2 al2 ac2) ∧ W.cell? ⟨b2, o2 + j * 5 + 4, none⟩ = some (.slice ka2 kl2 kc2))
          (first | exact KS.out _ ((Below.refl _ _).drew) | exact KS.out _ (Below.trans (And.left (by assumption)) (Below.mono (by assumption) (Below.size (And.left (by assumption))))))
          (first | (go_at_call 32; refine (HE.out _ ?_).mono ?_; (go_split_ands; exact Below.trans HB.out (Below.mono (by assumption) HB.out.size)); rintro x w1 ⟨rfl, hb1⟩))
        have hfin : Hid (Below w.heap.size w _) := HB.out.trans (Below.mono (And.left (by assumption)) HB.out.size)
        go_wp2_with fail
        go_ret
        exact ⟨R0j.out (by trivial), hfin.out⟩
    · obtain rfl : j = ll := by omega
      have R := Lib.hid (R1.out HH.out)
      go_wp2_with fail
      go_ret
      exact ⟨R.out, HB.out⟩
  · have R : Hid (Ending.returned (.bool false) = .returned (.bool (decide (ll = ll') && allB ll (fun i => (L i).same (L' i))))) := by rw [decide_eq_false hl]; exact rfl
    have hl' : ((ll : Int) != (ll' : Int)) = true := by simp; omega
    clear h h' ih hl
    generalize (decide (ll = ll') && allB ll (fun i => (L i).same (L' i))) = ans at R ⊢
    go_enter Tryz.func16, Tryz.ntmps16
    go_wp2_with fail
    go_ret
    exact ⟨R.out, Below.refl _ _⟩

set_option maxRecDepth 100000 in
set_option maxHeartbeats 4000000 in
theorem sn_any : ∀ v : N, SnOk v := by
  intro v
  induction v with
  | leaf => intro u w h; exact h.elim
  | mk id1 tg1 tx1 aa1 al1 ac1 an1 A1 ka1 kl1 kc1 K1 ih =>
  intro u w hv hu
  cases u with
  | leaf => exact hu.elim
  | mk id2 tg2 tx2 aa2 al2 ac2 an2 A2 ka2 kl2 kc2 K2 =>
  have HL : Hid (∀ W, Below w.heap.size w W → Calls Tryz.prog 16 #[.slice ka1 kl1 kc1, .slice ka2 kl2 kc2] W fun x w' => x = .returned (.bool (decide (kl1 = kl2) && allB kl1 (fun i => (K1 i).same (K2 i)))) ∧ Below W.heap.size W w') := fun W hb => by
    have a := hv.below hb
    have b := hu.below hb
    exact sns_any W ka1 ka2 kl1 kc1 kl2 kc2 K1 K2 (fun i _ => ih i) (by have := a.2.2.2.2.1; unfold maxLen at this; omega) (by have := b.2.2.2.2.1; unfold maxLen at this; omega) a.2.2.2.2.2.2 b.2.2.2.2.2.2
  have HF : Hid (∀ W, Below w.heap.size w W → Calls Tryz.prog 99 #[.slice aa1 al1 ac1, .slice aa2 al2 ac2] W fun x w' => x = .returned (.bool (fsB al1 an1 A1 al2 an2 A2)) ∧ Below W.heap.size W w') := fun W hb => by
    have a := hv.below hb
    have b := hu.below hb
    exact sfs_any W aa1 aa2 al1 ac1 al2 ac2 an1 an2 A1 A2 (fun i _ => sv_any (A1 i)) (by have := a.2.2.2.1; unfold maxLen at this; omega) (by have := b.2.2.2.1; unfold maxLen at this; omega) (fun i hi => ⟨(a.2.2.2.2.2.1 i hi).1, (a.2.2.2.2.2.1 i hi).2.2⟩) (fun i hi => ⟨(b.2.2.2.2.2.1 i hi).1, (b.2.2.2.2.2.1 i hi).2.2⟩)
  clear ih hv hu
  have hans : (N.mk id1 tg1 tx1 aa1 al1 ac1 an1 A1 ka1 kl1 kc1 K1).same (.mk id2 tg2 tx2 aa2 al2 ac2 an2 A2 ka2 kl2 kc2 K2) = ((id1 == id2) && ((tg1.toList == tg2.toList) && ((tx1.toList == tx2.toList) && (fsB al1 an1 A1 al2 an2 A2 && (decide (kl1 = kl2) && allB kl1 (fun i => (K1 i).same (K2 i))))))) := by
    rw [← dec_int id1 id2, ← dec_bytes tg1 tg2, ← dec_bytes tx1 tx2]; rfl
  rw [hans]
  clear hans
  generalize (decide (kl1 = kl2) && allB kl1 (fun i => (K1 i).same (K2 i))) = qK at HL ⊢
  generalize fsB al1 an1 A1 al2 an2 A2 = qF at HF ⊢
  simp only [N.agg, N.cells]
  obtain ⟨W1, hW1⟩ : ∃ W1, (w.alloc (.cells #[.int .i64 id1, .string tg1, .string tx1, .slice aa1 al1 ac1, .slice ka1 kl1 kc1] 58)).alloc (.cells #[.int .i64 id2, .string tg2, .string tx2, .slice aa2 al2 ac2, .slice ka2 kl2 kc2] 58) = W1 := ⟨_, rfl⟩
  have hB0 : Below w.heap.size w W1 := by rw [← hW1]; exact ((Below.refl _ _).alloc (Nat.le_refl _) _).alloc (by simp) _
  have hk1 : W1.heap[w.heap.size]? = some (.cells #[.int .i64 id1, .string tg1, .string tx1, .slice aa1 al1 ac1, .slice ka1 kl1 kc1] 58 (0, 0)) := by rw [← hW1]; exact al_old _ (al_new _ rfl)
  have hk2 : W1.heap[w.heap.size + 1]? = some (.cells #[.int .i64 id2, .string tg2, .string tx2, .slice aa2 al2 ac2, .slice ka2 kl2 kc2] 58 (0, 0)) := by rw [← hW1]; exact al_new _ (by simp)
  have hz : W1.heap.size = w.heap.size + 2 := by rw [← hW1]; simp
  have HX : Hid (∀ W, Below W1.heap.size W1 W → (∀ j, W.cell? ⟨w.heap.size, j, none⟩ = (#[Value.int .i64 id1, .string tg1, .string tx1, .slice aa1 al1 ac1, .slice ka1 kl1 kc1] : Array Value)[j]?) ∧ ∀ j, W.cell? ⟨w.heap.size + 1, j, none⟩ = (#[Value.int .i64 id2, .string tg2, .string tx2, .slice aa2 al2 ac2, .slice ka2 kl2 kc2] : Array Value)[j]?) := Lib.hid fun W hb =>
    ⟨fun j => Lib.cell_of_heap ((hb.block _ (by omega)).trans hk1) j, fun j => Lib.cell_of_heap ((hb.block _ (by omega)).trans hk2) j⟩
  have X := HX.out W1 (Below.refl _ _)
  have c0 : W1.cell? ⟨w.heap.size, 0, none⟩ = some (.int .i64 id1) := X.1 0
  have c1 : W1.cell? ⟨w.heap.size, 1, none⟩ = some (.string tg1) := X.1 1
  have c2 : W1.cell? ⟨w.heap.size, 2, none⟩ = some (.string tx1) := X.1 2
  have c3 : W1.cell? ⟨w.heap.size, 3, none⟩ = some (.slice aa1 al1 ac1) := X.1 3
  have c4 : W1.cell? ⟨w.heap.size, 4, none⟩ = some (.slice ka1 kl1 kc1) := X.1 4
  have d0 : W1.cell? ⟨w.heap.size + 1, 0, none⟩ = some (.int .i64 id2) := X.2 0
  have d1 : W1.cell? ⟨w.heap.size + 1, 1, none⟩ = some (.string tg2) := X.2 1
  have d2 : W1.cell? ⟨w.heap.size + 1, 2, none⟩ = some (.string tx2) := X.2 2
  have d3 : W1.cell? ⟨w.heap.size + 1, 3, none⟩ = some (.slice aa2 al2 ac2) := X.2 3
  have d4 : W1.cell? ⟨w.heap.size + 1, 4, none⟩ = some (.slice ka2 kl2 kc2) := X.2 4
  clear X hk1 hk2 hz
  have HB0 := Lib.hid hB0
  obtain ⟨q0, hq0⟩ : ∃ q, (id1 == id2) = q := ⟨_, rfl⟩
  obtain ⟨q1, hq1⟩ : ∃ q, (tg1.toList == tg2.toList) = q := ⟨_, rfl⟩
  obtain ⟨q2, hq2⟩ : ∃ q, (tx1.toList == tx2.toList) = q := ⟨_, rfl⟩
  rw [hq0, hq1, hq2]
  go_enter Tryz.func32, Tryz.ntmps32
  go_upto_region 1 with fail
  try rw [hW1]
  clear hW1 hB0
  cases q0
  · go_wp2_with fail
    go_ret
    exact ⟨rfl, HB0.out⟩
  · cases q1
    · go_wp2_with fail
      go_ret
      exact ⟨rfl, HB0.out⟩
    · cases q2
      · go_wp2_with fail
        go_ret
        exact ⟨rfl, HB0.out⟩
      · cases qF
        · go_wp2_with (go_at_call 99; (with_reducible refine (HF.out _ HB0.out).mono ?_); rintro x w1 ⟨rfl, hb1⟩)
          go_ret
          exact ⟨rfl, HB0.out.trans (hb1.mono HB0.out.size)⟩
        · go_wp2_with (first
            | (go_at_call 99; (with_reducible refine (HF.out _ HB0.out).mono ?_); rintro x w1 ⟨rfl, hb1⟩; have X1 := HX.out w1 hb1; have e4 : w1.cell? ⟨w.heap.size, 4, none⟩ = some (.slice ka1 kl1 kc1) := X1.1 4; have f4 : w1.cell? ⟨w.heap.size + 1, 4, none⟩ = some (.slice ka2 kl2 kc2) := X1.2 4; clear X1)
            | (go_at_call 16; (with_reducible refine (HL.out _ (HB0.out.trans (hb1.mono HB0.out.size))).mono ?_); rintro x w2 ⟨rfl, hb2⟩))
          go_ret
          exact ⟨by cases qK <;> rfl, (HB0.out.trans (hb1.mono HB0.out.size)).trans (hb2.mono (HB0.out.trans (hb1.mono HB0.out.size)).size)⟩
theorem sameNodes_any (w : World) (a a' : Option Addr) (n c n' c' : Nat) (K K' : Nat → N) (hlc : n ≤ c ∧ c ≤ maxLen) (hlc' : n' ≤ c' ∧ c' ≤ maxLen) (h : NsIn w a n K) (h' : NsIn w a' n' K') :
    Calls Tryz.prog 16 #[.slice a n c, .slice a' n' c'] w fun x w' => x = .returned (.bool (decide (n = n') && allB n (fun i => (K i).same (K' i)))) ∧ Below w.heap.size w w' :=
  sns_any w a a' n c n' c' K K' (fun i _ => sn_any (K i)) (by unfold maxLen at hlc; omega) (by unfold maxLen at hlc'; omega) h h'
end Go.Proofs.YtajmdhcknmmbbaaGreatDoor.Sh
