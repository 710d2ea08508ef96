/-
  Plain: matching looks at no value. Walks: MatchChildren returns true; old memory is as it was.
  Conditions: both lists lie in memory, hold at most 2^20 children each, and each value's lists fit.
-/
import Derived.Test.YtpmkkgndpfbkdaaGreatDoorMaR
import Derived.Test.YtpmkkgndpfbkdaaGreatDoorMaSz
import Derived.Test.YtpmkkgndpfbkdaaGreatDoorBeyond
import Derived.Test.YtpmkkgndpfbkdaaGreatDoorTwC
import Derived.Test.YtpmkkgndpfbkdaaGreatDoorBkApI
namespace Go.Proofs.YtpmkkgndpfbkdaaGreatDoor
set_option linter.unusedVariables false
set_option linter.unusedSimpArgs false
open Go.RowKit Go.Deep Go.WideShapes

/-- Are two numbers beyond? Some Boolean. -/
theorem beyond_two (x y : Int) (hx : -9223372036854775808 ≤ x ∧ x ≤ 9223372036854775807) (hy : -9223372036854775808 ≤ y ∧ y ≤ 9223372036854775807) (w : World) : Calls Tryz.prog 4 #[.slice (some ⟨w.heap.size, 0, none⟩) 2 2] (w.alloc (.cells #[.int .i64 x, .int .i64 y] 3)) fun e w' => (∃ q : Bool, e = .returned (.bool q)) ∧ Below (w.alloc (.cells #[.int .i64 x, .int .i64 y] 3)).heap.size (w.alloc (.cells #[.int .i64 x, .int .i64 y] 3)) w' := by
  have := beyond_is (w.alloc (.cells #[.int .i64 x, .int .i64 y] 3)) w.heap.size 0 2 2 (fun i => if i = 0 then x else y) (by decide) (fun j hj => by
    match j, hj with
    | 0, _ => exact World.cell?_alloc_new (w := w) #[.int .i64 x, .int .i64 y] 3 0
    | 1, _ => exact World.cell?_alloc_new (w := w) #[.int .i64 x, .int .i64 y] 3 1) (fun i => by split <;> assumption)
  refine this.mono fun e w' h => ⟨⟨_, h.1⟩, ?_⟩
  rw [← h.2]
  exact Below.refl _ _

theorem firstsM_with {K : Nat → C} {L : Nat → V} : ∀ n, firstsM (fun i => Tw.C.with (K i) (L i)) n = firstsM K n
  | 0 => rfl
  | n + 1 => by
    funext x
    rw [firstsM, firstsM, firstsM_with n]
    rfl
theorem heldM_with {K N : Nat → C} {L M : Nat → V} {n : Nat} : ∀ j, heldM (fun i => Tw.C.with (K i) (L i)) (fun i => Tw.C.with (N i) (M i)) n j = heldM K N n j
  | 0 => firstsM_with n
  | j + 1 => by
    funext x
    rw [heldM, heldM, heldM_with j]
    rfl
theorem matM_with {K N : Nat → C} {L M : Nat → V} {n : Nat} : matM (fun i => Tw.C.with (K i) (L i)) (fun i => Tw.C.with (N i) (M i)) n = matM K N n := by
  funext j
  unfold matM
  rw [heldM_with]
  rfl
theorem twin_clst {base g ll lc : Nat} {w W : World} {la : Option Addr} {K : Nat → C} {L : Nat → V} (h : CLst w la ll lc K) (hl : ll + 1 ≤ maxLen) (h' : Tw.COk base W g ll K L) : CLst W (some ⟨g, 0, none⟩) ll (ll + 1) (fun i => Tw.C.with (K i) (L i)) :=
  ⟨⟨Nat.le_succ _, hl⟩, fun i hi => ⟨⟨g, 0, rfl, by rw [Nat.zero_add]; exact h'.cs i hi⟩, let q := (h.els i hi).2; ⟨q.1, q.2.1, q.2.2.1, (h'.ok i hi).inn⟩⟩⟩
theorem same_row (w : World) (a a' : Option Addr) (n c c' : Nat) (g : Nat → Int) (hn : n ≤ maxLen) (h : IL w a n g) (h' : IL w a' n g) :
    Calls Tryz.prog 9 #[.slice a n c, .slice a' n c'] w fun x w' => x = .returned (.bool true) ∧ Below w.heap.size w w' :=
  (sameInts_any w a a' n c n c' g g hn hn h h').mono fun x w' h => ⟨by rw [h.1, (allB_iff).2 (fun i _ => decide_eq_true rfl)]; simp, h.2⟩

/-! ### The book of two lists of ints -/
def mbK : Bk.KTab := ⟨fun _ => 3, fun _ => 1, fun _ n => Bk.markIntL n, fun _ _ => rfl⟩
def mbS (g1 g2 n : Nat) : Nat → Nat → Value := fun _ i => .slice (some ⟨if i = 0 then g1 else g2, 0, none⟩) n n
def mbN : Nat → Nat → Int := fun _ i => (i : Int) + 1
def mbM (k : Nat) : Nat → Nat := fun κ => if κ = 1 then k else 0
def mbD (B T c g1 g2 n : Nat) : Bk.BkD := ⟨B, fun _ => T, mbM 2, fun _ => c, fun _ i => some ⟨if i = 0 then g1 else g2, 0, none⟩, fun _ _ => n, fun _ _ => n, mbN⟩
theorem bm_new {wb : World} {ht : Nat → TypeId} {S : Nat → Nat → Value} {N : Nat → Nat → Int} {T' : TypeId} : Bk.BM ht wb wb.heap.size (fun _ => 0) S N 0 (fun _ => .slice none 0 0) (wb.alloc (.cells #[.int .i64 0, .slice none 0 0, .slice none 0 0, .slice none 0 0, .slice none 0 0, .slice none 0 0, .slice none 0 0, .slice none 0 0, .slice none 0 0, .slice none 0 0, .slice none 0 0, .slice none 0 0, .slice none 0 0, .slice none 0 0, .slice none 0 0, .slice none 0 0, .slice none 0 0] T')) := by
  have h := Bk.at_new (w := wb) (cs := [.int .i64 0, .slice none 0 0, .slice none 0 0, .slice none 0 0, .slice none 0 0, .slice none 0 0, .slice none 0 0, .slice none 0 0, .slice none 0 0, .slice none 0 0, .slice none 0 0, .slice none 0 0, .slice none 0 0, .slice none 0 0, .slice none 0 0, .slice none 0 0, .slice none 0 0]) (T := T') rfl (Below.refl _ _)
  refine ⟨below_alloc _ _, h 0 (by decide), fun κ h1 h2 => ?_, fun j => by simp, fun κ _ _ => World.ownsRow_nil _ _ _ _, fun κ κ' _ _ _ _ _ b e => by cases e⟩
  have hj := h κ h2
  rw [Nat.zero_add] at hj
  rw [hj]
  match κ, h1, h2 with
  | 1, _, _ | 2, _, _ | 3, _, _ | 4, _, _ | 5, _, _ | 6, _, _ | 7, _, _ | 8, _, _ | 9, _, _ | 10, _, _ | 11, _, _ | 12, _, _ | 13, _, _ | 14, _, _ | 15, _, _ | 16, _, _ => rfl
  | κ + 17, _, h2 => exact absurd h2 (by omega)
theorem at1_two (k k' : Nat) : Bk.at1 (mbM k) 1 k' = mbM k' := by
  funext κ
  unfold Bk.at1 mbM
  by_cases h : κ = 1 <;> simp [h]
theorem at1_v (x y z : Value) : Bk.at1 (Bk.at1 (fun _ => z) 1 x) 1 y = Bk.at1 (fun _ => z) 1 y := by
  funext κ
  unfold Bk.at1
  by_cases h : κ = 1 <;> simp [h]
theorem mb_only {κ : Nat} (h : 0 < mbM 2 κ) : κ = 1 := by
  unfold mbM at h
  by_cases e : κ = 1
  · exact e
  · rw [if_neg e] at h; omega
set_option maxRecDepth 100000 in
/-- The book is made of the two. -/
theorem mb_apart {w W0 W : World} {T c g1 g2 n : Nat} {hh : Nat → Int} (hn : n ≤ 1048576) (hlow : Below w.heap.size w W0) (o1 : OwnI W0 w.heap.size g1 n hh) (o2 : OwnI W0 w.heap.size g2 n hh) (hne : g1 ≠ g2)
    (hk : Bk.BM (fun _ => 74) W0 W0.heap.size (mbM 2) (mbS g1 g2 n) mbN 2 (Bk.at1 (fun _ => .slice none 0 0) 1 (.slice (some ⟨T, 0, none⟩) 2 c)) W) :
    Calls Tryz.prog 12 #[.pointer (some ⟨W0.heap.size, 0, none⟩)] W fun e w' => e = .returned (.bool true) ∧ Below w.heap.size w w' := by
  have hm0 : ∀ κ, ¬ (1 ≤ κ ∧ κ < 17) → (mbD W0.heap.size T c g1 g2 n).m κ = 0 := fun κ hκ => by
    show mbM 2 κ = 0
    unfold mbM
    rw [if_neg (fun e => hκ (by omega))]
  have hm1 : ∀ κ, κ ≠ 1 → (mbD W0.heap.size T c g1 g2 n).m κ = 0 := fun κ hκ => by
    show mbM 2 κ = 0
    unfold mbM
    rw [if_neg hκ]
  have hT := Bk.BM.toT (D := mbD W0.heap.size T c g1 g2 n) (wb := w) hk hlow hlow.size hm0 (fun κ _ _ h0 => by
      obtain rfl := mb_only h0
      rfl) (fun κ _ _ h0 => by
      show Bk.at1 (fun _ => Value.slice none 0 0) 1 (.slice (some ⟨T, 0, none⟩) 2 c) κ = _
      have : κ ≠ 1 := fun e => by subst e; cases h0
      rw [Bk.at1_other _ _ this]) (fun κ i _ => rfl)
  obtain ⟨hT1, hT2, -⟩ := hT
  have hT3 := hT2 1 (show 0 < mbM 2 1 by decide)
  have hT4 : W0.heap.size + 1 ≤ T := hT3.1
  have hT5 : 2 ≤ c ∧ c ≤ maxLen := hT3.2.2
  have key : ∀ i b, (some ⟨if i = 0 then g1 else g2, 0, none⟩ : Option Addr) = some ⟨b, 0, none⟩ → b < W0.heap.size := by
    intro i b e
    simp only [Option.some.injEq, Addr.mk.injEq, and_true] at e
    have l1 := o1.lt.2
    have l2 := o2.lt.2
    split at e <;> omega
  have hs : Bk.BkS (mbD W0.heap.size T c g1 g2 n) w := by
    refine ⟨hlow.size, fun κ h0 => ⟨?_, ?_⟩, fun κ κ' h0 h0' hne' => absurd ((mb_only h0).trans (mb_only h0').symm) hne', fun κ => ⟨?_, hT5.2⟩, fun κ i hi => ?_, fun κ i hi => ?_, fun κ i hi b e => ⟨?_, fun κ' h0' => ?_⟩, fun κ i hi κ' j hj hij b e e' => ?_⟩
    · show w.heap.size ≤ T
      have := hlow.size
      omega
    · show T ≠ W0.heap.size
      omega
    · show mbM 2 κ ≤ c
      unfold mbM
      split <;> omega
    · have hi : i < mbM 2 κ := hi
      have : mbM 2 κ ≤ 2 := by unfold mbM; split <;> omega
      show -9223372036854775808 ≤ (i : Int) + 1 ∧ (i : Int) + 1 ≤ 9223372036854775807
      omega
    · show n ≤ 68719476736
      omega
    · have := key i b e
      show b ≠ W0.heap.size
      omega
    · have := key i b e
      show b ≠ T
      omega
    · have hi : i < mbM 2 κ := hi
      have hj : j < mbM 2 κ' := hj
      obtain rfl := mb_only (Nat.lt_of_le_of_lt (Nat.zero_le _) hi)
      obtain rfl := mb_only (Nat.lt_of_le_of_lt (Nat.zero_le _) hj)
      have hi : i < 2 := hi
      have hj : j < 2 := hj
      have e : (some ⟨if i = 0 then g1 else g2, 0, none⟩ : Option Addr) = some ⟨b, 0, none⟩ := e
      have e' : (some ⟨if j = 0 then g1 else g2, 0, none⟩ : Option Addr) = some ⟨b, 0, none⟩ := e'
      simp only [Option.some.injEq, Addr.mk.injEq, and_true] at e e'
      have h01 : (i = 0 ∧ j = 1) ∨ (i = 1 ∧ j = 0) := by omega
      rcases h01 with ⟨rfl, rfl⟩ | ⟨rfl, rfl⟩
      · simp at e e'
        omega
      · simp at e e'
        omega
  have hr : Bk.RowsF mbK (mbD W0.heap.size T c g1 g2 n) w (Bk.fillF (mbD W0.heap.size T c g1 g2 n) 1 0 0) W := fun κ j hj => by
    have hj : j < mbM 2 κ := hj
    obtain rfl := mb_only (Nat.lt_of_le_of_lt (Nat.zero_le _) hj)
    have hz : Bk.fillF (mbD W0.heap.size T c g1 g2 n) 1 0 0 1 j = 0 := by
      unfold Bk.fillF
      rw [if_neg (by omega), if_pos rfl, if_neg (by omega)]
      split <;> rfl
    rw [hz]
    by_cases h0 : j = 0
    · subst h0
      exact ⟨_, Bk.ownsRow_below o1 hk.low, fun q hq => absurd hq (Nat.not_lt_zero _)⟩
    · refine ⟨rowI n hh, ?_, fun q hq => absurd hq (Nat.not_lt_zero _)⟩
      show W.ownsRow w.heap.size 3 1 (.slice (some ⟨if j = 0 then g1 else g2, 0, none⟩) n n) n _
      rw [if_neg h0]
      exact Bk.ownsRow_below o2 hk.low
  have hN : ∀ i, i < (mbD W0.heap.size T c g1 g2 n).m 1 → (0 : Int) ≤ (mbD W0.heap.size T c g1 g2 n).N 1 i ∧ (mbD W0.heap.size T c g1 g2 n).N 1 i ≤ 1099511627776 := fun i hi => by
    have hi : i < 2 := hi
    show (0 : Int) ≤ (i : Int) + 1 ∧ (i : Int) + 1 ≤ 1099511627776
    omega
  have q1 : mbK.ty 1 = 3 := rfl
  have q2 : mbK.sz 1 = 1 := rfl
  have q3 : ∀ n, mbK.mark 1 n = Bk.markIntL n := fun _ => rfl
  have q4 : W0.heap.size = (mbD W0.heap.size T c g1 g2 n).B := rfl
  rw [q4]
  generalize mbD W0.heap.size T c g1 g2 n = D at hs hm0 hm1 hN hT1 hr ⊢
  generalize mbK = KK at q1 q2 q3 hr
  exact Bk.apartApI_any hs hm0 hm1 q1 q2 q3 (fun i hi W' _ => Bk.markInt_any (D.N 1 i) (hN i hi) W') (fun i hi W' _ => Bk.isInt_any (D.N 1 i) (hN i hi) W') hT1 hr
end Go.Proofs.YtpmkkgndpfbkdaaGreatDoor
