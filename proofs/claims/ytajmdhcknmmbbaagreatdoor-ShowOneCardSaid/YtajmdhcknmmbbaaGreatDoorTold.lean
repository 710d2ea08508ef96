/-
  Walks: the closure in value.Text writes 'V.told'.
  Conditions: the value lies in memory; the teller in block B, the closure's two variables in the blocks behind it.
-/
import Derived.Test.YtajmdhcknmmbbaaGreatDoorElem
namespace Go.Proofs.YtajmdhcknmmbbaaGreatDoor
open Go.RowKit

theorem drew_wrote {B : Nat} {l l' : List UInt8} {w w' : World} (h : Wrote B l l' w.drew w') : Wrote B l l' w w' := ⟨h.1, (show Fr B w w.drew from ⟨(Below.refl _ _).drew, rfl, rfl⟩).trans h.2⟩

theorem TE.drew {B : Nat} {w0 w : World} (h : TE B w0 w) : TE B w0 w.drew := h.fr ⟨(Below.refl _ _).drew, rfl, rfl⟩

theorem IsT.drew {B : Nat} {l : List UInt8} {w : World} (h : IsT B l w) : IsT B l w.drew := h.below (Below.refl _ _).drew

set_option maxRecDepth 100000 in
set_option maxHeartbeats 2000000 in
theorem tell_0 (w0 w : World) (B b o : Nat) (l : List UInt8) (n : Int) (s : ByteArray) (la : Option Addr) (ll lc : Nat) (L : Nat → V) (fa : Option Addr) (fl fc : Nat) (fn : Nat → ByteArray) (F : Nat → V) (e : Int) (key : ByteArray) (hk : Bool)
    (hvL : ∀ i, TellOk (L i)) (hvF : ∀ i, TellOk (F i)) (h : (V.mk 0 n s la ll lc L fa fl fc fn F e key hk).In w0) (ha : At w0 b o (V.mk 0 n s la ll lc L fa fl fc fn F e key hk).cells) (hwd : WordsAt w0) (htb : Lib.TabIs Tryz.prog w0 "internal/strconv.uint64pow10" .u64 Lib.pow10Tab)
    (he : TE B w0 w) (ht : IsT B l w) (hlen : l.length + (V.mk 0 n s la ll lc L fa fl fc fn F e key hk).told.length ≤ 140737488355328) (hg : (V.mk 0 n s la ll lc L fa fl fc fn F e key hk).good) :
    Calls Tryz.prog 185 #[.pointer (some ⟨b, o, none⟩), .pointer (some ⟨B + 1, 0, none⟩), .pointer (some ⟨B + 2, 0, none⟩)] w fun x w' => x = .returned (.tuple #[]) ∧ Wrote B l (V.mk 0 n s la ll lc L fa fl fc fn F e key hk).told w w' := by
  have _u := And.intro hvL (And.intro hvF (And.intro h (And.intro hwd (And.intro htb hg))))
  clear _u
  obtain ⟨c0, c1, c2, c3, c4, c5, c6, c7⟩ := at8 (ha.below (by rw [he.sz]; exact he.below))
  have t1 : w.cell? ⟨B + 1, 0, none⟩ = some (.pointer (some ⟨B, 0, none⟩)) := by rw [Lib.cell_of_heap he.t]; rfl
  have t2 : w.cell? ⟨B + 2, 0, none⟩ = some (tellF B) := by rw [Lib.cell_of_heap he.f]; rfl
  have HT := Lib.hid (show (V.mk 0 n s la ll lc L fa fl fc fn F e key hk).told = [110, 111, 110, 101] by simp [V.told])
  rw [HT.out] at hlen
  have HX := Lib.hid (writeS_any B l ⟨#[110, 111, 110, 101]⟩ w ht hlen)
  clear hvL hvF h ha hwd htb he ht hlen hg
  unfold tellF at t2
  go_enter Tryz.func185, Tryz.ntmps185
  go_wp2_with fail
  refine HX.out.mono ?_
  rintro x w1 ⟨rfl, hw⟩
  have HW := Lib.hid hw
  clear hw
  go_wp2_with fail
  go_end0
  exact ⟨rfl, by rw [HT.out]; exact HW.out⟩

set_option maxRecDepth 100000 in
set_option maxHeartbeats 2000000 in
theorem tell_1 (w0 w : World) (B b o : Nat) (l : List UInt8) (n : Int) (s : ByteArray) (la : Option Addr) (ll lc : Nat) (L : Nat → V) (fa : Option Addr) (fl fc : Nat) (fn : Nat → ByteArray) (F : Nat → V) (e : Int) (key : ByteArray) (hk : Bool)
    (hvL : ∀ i, TellOk (L i)) (hvF : ∀ i, TellOk (F i)) (h : (V.mk 1 n s la ll lc L fa fl fc fn F e key hk).In w0) (ha : At w0 b o (V.mk 1 n s la ll lc L fa fl fc fn F e key hk).cells) (hwd : WordsAt w0) (htb : Lib.TabIs Tryz.prog w0 "internal/strconv.uint64pow10" .u64 Lib.pow10Tab)
    (he : TE B w0 w) (ht : IsT B l w) (hlen : l.length + (V.mk 1 n s la ll lc L fa fl fc fn F e key hk).told.length ≤ 140737488355328) (hg : (V.mk 1 n s la ll lc L fa fl fc fn F e key hk).good) :
    Calls Tryz.prog 185 #[.pointer (some ⟨b, o, none⟩), .pointer (some ⟨B + 1, 0, none⟩), .pointer (some ⟨B + 2, 0, none⟩)] w fun x w' => x = .returned (.tuple #[]) ∧ Wrote B l (V.mk 1 n s la ll lc L fa fl fc fn F e key hk).told w w' := by
  have _u := And.intro hvL (And.intro hvF (And.intro h (And.intro hwd (And.intro htb hg))))
  clear _u
  obtain ⟨c0, c1, c2, c3, c4, c5, c6, c7⟩ := at8 (ha.below (by rw [he.sz]; exact he.below))
  have t1 : w.cell? ⟨B + 1, 0, none⟩ = some (.pointer (some ⟨B, 0, none⟩)) := by rw [Lib.cell_of_heap he.t]; rfl
  have t2 : w.cell? ⟨B + 2, 0, none⟩ = some (tellF B) := by rw [Lib.cell_of_heap he.f]; rfl
  have HT := Lib.hid (show (V.mk 1 n s la ll lc L fa fl fc fn F e key hk).told = Lib.itoa n by simp [V.told])
  rw [HT.out] at hlen
  have HX := Lib.hid (number_any B l n h.2.1 w.drew ht.drew hlen (tab_fr he.drew (Fr.refl _ _) htb))
  clear hvL hvF h ha hwd htb he ht hlen hg
  unfold tellF at t2
  go_enter Tryz.func185, Tryz.ntmps185
  go_wp2_with fail
  go_still_tail 5, (by kernel_rfl)
  go_wp2_with fail
  refine HX.out.mono ?_
  rintro x w1 ⟨rfl, hw⟩
  have HW := Lib.hid hw
  clear hw
  go_wp2_with fail
  go_end0
  exact ⟨rfl, by rw [HT.out]; exact drew_wrote HW.out⟩

set_option maxRecDepth 100000 in
set_option maxHeartbeats 2000000 in
theorem tell_3 (w0 w : World) (B b o : Nat) (l : List UInt8) (n : Int) (s : ByteArray) (la : Option Addr) (ll lc : Nat) (L : Nat → V) (fa : Option Addr) (fl fc : Nat) (fn : Nat → ByteArray) (F : Nat → V) (e : Int) (key : ByteArray) (hk : Bool)
    (hvL : ∀ i, TellOk (L i)) (hvF : ∀ i, TellOk (F i)) (h : (V.mk 3 n s la ll lc L fa fl fc fn F e key hk).In w0) (ha : At w0 b o (V.mk 3 n s la ll lc L fa fl fc fn F e key hk).cells) (hwd : WordsAt w0) (htb : Lib.TabIs Tryz.prog w0 "internal/strconv.uint64pow10" .u64 Lib.pow10Tab)
    (he : TE B w0 w) (ht : IsT B l w) (hlen : l.length + (V.mk 3 n s la ll lc L fa fl fc fn F e key hk).told.length ≤ 140737488355328) (hg : (V.mk 3 n s la ll lc L fa fl fc fn F e key hk).good) :
    Calls Tryz.prog 185 #[.pointer (some ⟨b, o, none⟩), .pointer (some ⟨B + 1, 0, none⟩), .pointer (some ⟨B + 2, 0, none⟩)] w fun x w' => x = .returned (.tuple #[]) ∧ Wrote B l (V.mk 3 n s la ll lc L fa fl fc fn F e key hk).told w w' := by
  have _u := And.intro hvL (And.intro hvF (And.intro h (And.intro hwd (And.intro htb hg))))
  clear _u
  obtain ⟨c0, c1, c2, c3, c4, c5, c6, c7⟩ := at8 (ha.below (by rw [he.sz]; exact he.below))
  have t1 : w.cell? ⟨B + 1, 0, none⟩ = some (.pointer (some ⟨B, 0, none⟩)) := by rw [Lib.cell_of_heap he.t]; rfl
  have t2 : w.cell? ⟨B + 2, 0, none⟩ = some (tellF B) := by rw [Lib.cell_of_heap he.f]; rfl
  have HT := Lib.hid (show (V.mk 3 n s la ll lc L fa fl fc fn F e key hk).told = quotedL s.data.toList by simp [V.told])
  rw [HT.out] at hlen
  have HX := Lib.hid (quoted_any B l s w.drew h.2.2.1 ht.drew hlen)
  clear hvL hvF h ha hwd htb he ht hlen hg
  unfold tellF at t2
  go_enter Tryz.func185, Tryz.ntmps185
  go_wp2_with fail
  go_still_tail 5, (by kernel_rfl)
  go_wp2_with fail
  refine HX.out.mono ?_
  rintro x w1 ⟨rfl, hw⟩
  have HW := Lib.hid hw
  clear hw
  go_wp2_with fail
  go_end0
  exact ⟨rfl, by rw [HT.out]; exact drew_wrote HW.out⟩

set_option maxRecDepth 100000 in
set_option maxHeartbeats 2000000 in
theorem tell_4 (w0 w : World) (B b o : Nat) (l : List UInt8) (n : Int) (s : ByteArray) (la : Option Addr) (ll lc : Nat) (L : Nat → V) (fa : Option Addr) (fl fc : Nat) (fn : Nat → ByteArray) (F : Nat → V) (e : Int) (key : ByteArray) (hk : Bool)
    (hvL : ∀ i, TellOk (L i)) (hvF : ∀ i, TellOk (F i)) (h : (V.mk 4 n s la ll lc L fa fl fc fn F e key hk).In w0) (ha : At w0 b o (V.mk 4 n s la ll lc L fa fl fc fn F e key hk).cells) (hwd : WordsAt w0) (htb : Lib.TabIs Tryz.prog w0 "internal/strconv.uint64pow10" .u64 Lib.pow10Tab)
    (he : TE B w0 w) (ht : IsT B l w) (hlen : l.length + (V.mk 4 n s la ll lc L fa fl fc fn F e key hk).told.length ≤ 140737488355328) (hg : (V.mk 4 n s la ll lc L fa fl fc fn F e key hk).good) :
    Calls Tryz.prog 185 #[.pointer (some ⟨b, o, none⟩), .pointer (some ⟨B + 1, 0, none⟩), .pointer (some ⟨B + 2, 0, none⟩)] w fun x w' => x = .returned (.tuple #[]) ∧ Wrote B l (V.mk 4 n s la ll lc L fa fl fc fn F e key hk).told w w' := by
  have _u := And.intro hvL (And.intro hvF (And.intro h (And.intro hwd (And.intro htb hg))))
  clear _u
  obtain ⟨c0, c1, c2, c3, c4, c5, c6, c7⟩ := at8 (ha.below (by rw [he.sz]; exact he.below))
  have t1 : w.cell? ⟨B + 1, 0, none⟩ = some (.pointer (some ⟨B, 0, none⟩)) := by rw [Lib.cell_of_heap he.t]; rfl
  have t2 : w.cell? ⟨B + 2, 0, none⟩ = some (tellF B) := by rw [Lib.cell_of_heap he.f]; rfl
  have HT := Lib.hid (show (V.mk 4 n s la ll lc L fa fl fc fn F e key hk).told = listL ll (fun i => (L i).told) by simp [V.told])
  rw [HT.out] at hlen
  have HX := Lib.hid (list_any w0 B l la ll lc L (fun i _ => hvL i) w.drew h.2.2.2.2.2.1 h.2.2.2.2.2.2.2.1 hg.2.1 hwd htb he.drew ht.drew hlen)
  unfold tellF at HX
  clear hvL hvF h ha hwd htb he ht hlen hg
  unfold tellF at t2
  go_enter Tryz.func185, Tryz.ntmps185
  go_wp2_with fail
  go_still_tail 6, (by kernel_rfl)
  go_wp2_with fail
  refine HX.out.mono ?_
  rintro x w1 ⟨rfl, hw⟩
  have HW := Lib.hid hw
  clear hw
  go_wp2_with fail
  go_end0
  exact ⟨rfl, by rw [HT.out]; exact drew_wrote HW.out⟩

set_option maxRecDepth 100000 in
set_option maxHeartbeats 2000000 in
theorem tell_5 (w0 w : World) (B b o : Nat) (l : List UInt8) (n : Int) (s : ByteArray) (la : Option Addr) (ll lc : Nat) (L : Nat → V) (fa : Option Addr) (fl fc : Nat) (fn : Nat → ByteArray) (F : Nat → V) (e : Int) (key : ByteArray) (hk : Bool)
    (hvL : ∀ i, TellOk (L i)) (hvF : ∀ i, TellOk (F i)) (h : (V.mk 5 n s la ll lc L fa fl fc fn F e key hk).In w0) (ha : At w0 b o (V.mk 5 n s la ll lc L fa fl fc fn F e key hk).cells) (hwd : WordsAt w0) (htb : Lib.TabIs Tryz.prog w0 "internal/strconv.uint64pow10" .u64 Lib.pow10Tab)
    (he : TE B w0 w) (ht : IsT B l w) (hlen : l.length + (V.mk 5 n s la ll lc L fa fl fc fn F e key hk).told.length ≤ 140737488355328) (hg : (V.mk 5 n s la ll lc L fa fl fc fn F e key hk).good) :
    Calls Tryz.prog 185 #[.pointer (some ⟨b, o, none⟩), .pointer (some ⟨B + 1, 0, none⟩), .pointer (some ⟨B + 2, 0, none⟩)] w fun x w' => x = .returned (.tuple #[]) ∧ Wrote B l (V.mk 5 n s la ll lc L fa fl fc fn F e key hk).told w w' := by
  have _u := And.intro hvL (And.intro hvF (And.intro h (And.intro hwd (And.intro htb hg))))
  clear _u
  obtain ⟨c0, c1, c2, c3, c4, c5, c6, c7⟩ := at8 (ha.below (by rw [he.sz]; exact he.below))
  have t1 : w.cell? ⟨B + 1, 0, none⟩ = some (.pointer (some ⟨B, 0, none⟩)) := by rw [Lib.cell_of_heap he.t]; rfl
  have t2 : w.cell? ⟨B + 2, 0, none⟩ = some (tellF B) := by rw [Lib.cell_of_heap he.f]; rfl
  have HT := Lib.hid (show (V.mk 5 n s la ll lc L fa fl fc fn F e key hk).told = recL fl fn (fun i => (F i).told) by simp [V.told])
  rw [HT.out] at hlen
  have HX := Lib.hid (record_any w0 B l fa fl fc fn F (fun i _ => hvF i) w.drew h.2.2.2.2.2.2.1 h.2.2.2.2.2.2.2.2 hg.2.2 hwd htb he.drew ht.drew hlen)
  unfold tellF at HX
  clear hvL hvF h ha hwd htb he ht hlen hg
  unfold tellF at t2
  go_enter Tryz.func185, Tryz.ntmps185
  go_wp2_with fail
  go_still_tail 6, (by kernel_rfl)
  go_wp2_with fail
  refine HX.out.mono ?_
  rintro x w1 ⟨rfl, hw⟩
  have HW := Lib.hid hw
  clear hw
  go_wp2_with fail
  go_end0
  exact ⟨rfl, by rw [HT.out]; exact drew_wrote HW.out⟩

set_option maxRecDepth 100000 in
set_option maxHeartbeats 2000000 in
theorem tell_7 (w0 w : World) (B b o : Nat) (l : List UInt8) (n : Int) (s : ByteArray) (la : Option Addr) (ll lc : Nat) (L : Nat → V) (fa : Option Addr) (fl fc : Nat) (fn : Nat → ByteArray) (F : Nat → V) (e : Int) (key : ByteArray) (hk : Bool)
    (hvL : ∀ i, TellOk (L i)) (hvF : ∀ i, TellOk (F i)) (h : (V.mk 7 n s la ll lc L fa fl fc fn F e key hk).In w0) (ha : At w0 b o (V.mk 7 n s la ll lc L fa fl fc fn F e key hk).cells) (hwd : WordsAt w0) (htb : Lib.TabIs Tryz.prog w0 "internal/strconv.uint64pow10" .u64 Lib.pow10Tab)
    (he : TE B w0 w) (ht : IsT B l w) (hlen : l.length + (V.mk 7 n s la ll lc L fa fl fc fn F e key hk).told.length ≤ 140737488355328) (hg : (V.mk 7 n s la ll lc L fa fl fc fn F e key hk).good) :
    Calls Tryz.prog 185 #[.pointer (some ⟨b, o, none⟩), .pointer (some ⟨B + 1, 0, none⟩), .pointer (some ⟨B + 2, 0, none⟩)] w fun x w' => x = .returned (.tuple #[]) ∧ Wrote B l (V.mk 7 n s la ll lc L fa fl fc fn F e key hk).told w w' := by
  have _u := And.intro hvL (And.intro hvF (And.intro h (And.intro hwd (And.intro htb hg))))
  clear _u
  obtain ⟨c0, c1, c2, c3, c4, c5, c6, c7⟩ := at8 (ha.below (by rw [he.sz]; exact he.below))
  have t1 : w.cell? ⟨B + 1, 0, none⟩ = some (.pointer (some ⟨B, 0, none⟩)) := by rw [Lib.cell_of_heap he.t]; rfl
  have t2 : w.cell? ⟨B + 2, 0, none⟩ = some (tellF B) := by rw [Lib.cell_of_heap he.f]; rfl
  have HT := Lib.hid (show (V.mk 7 n s la ll lc L fa fl fc fn F e key hk).told = [60, 100, 101, 101, 100, 32] ++ (Lib.itoa n ++ (32 :: (quotedL s.data.toList ++ (32 :: (recL fl fn (fun i => (F i).told) ++ [62]))))) by simp [V.told])
  rw [HT.out] at hlen
  have HX := Lib.hid (deed_any w0 B b o l n s la ll lc L fa fl fc fn F e key hk (fun i _ => hvL i) (fun i _ => hvF i) w h hg ha hwd htb he ht hlen)
  unfold tellF at HX
  clear hvL hvF h ha hwd htb he ht hlen hg
  unfold tellF at t2
  go_enter Tryz.func185, Tryz.ntmps185
  go_wp2_with fail
  refine HX.out.mono ?_
  rintro x w1 ⟨rfl, hw⟩
  have HW := Lib.hid hw
  clear hw
  go_wp2_with fail
  go_end0
  exact ⟨rfl, by rw [HT.out]; exact HW.out⟩

set_option maxRecDepth 100000 in
set_option maxHeartbeats 2000000 in
theorem tell_2 (w0 w : World) (B b o : Nat) (l : List UInt8) (n : Int) (s : ByteArray) (la : Option Addr) (ll lc : Nat) (L : Nat → V) (fa : Option Addr) (fl fc : Nat) (fn : Nat → ByteArray) (F : Nat → V) (e : Int) (key : ByteArray) (hk : Bool)
    (hvL : ∀ i, TellOk (L i)) (hvF : ∀ i, TellOk (F i)) (h : (V.mk 2 n s la ll lc L fa fl fc fn F e key hk).In w0) (ha : At w0 b o (V.mk 2 n s la ll lc L fa fl fc fn F e key hk).cells) (hwd : WordsAt w0) (htb : Lib.TabIs Tryz.prog w0 "internal/strconv.uint64pow10" .u64 Lib.pow10Tab)
    (he : TE B w0 w) (ht : IsT B l w) (hlen : l.length + (V.mk 2 n s la ll lc L fa fl fc fn F e key hk).told.length ≤ 140737488355328) (hg : (V.mk 2 n s la ll lc L fa fl fc fn F e key hk).good) :
    Calls Tryz.prog 185 #[.pointer (some ⟨b, o, none⟩), .pointer (some ⟨B + 1, 0, none⟩), .pointer (some ⟨B + 2, 0, none⟩)] w fun x w' => x = .returned (.tuple #[]) ∧ Wrote B l (V.mk 2 n s la ll lc L fa fl fc fn F e key hk).told w w' := by
  have _u := And.intro hvL (And.intro hvF (And.intro h (And.intro hwd (And.intro htb hg))))
  clear _u
  obtain ⟨c0, c1, c2, c3, c4, c5, c6, c7⟩ := at8 (ha.below (by rw [he.sz]; exact he.below))
  have t1 : w.cell? ⟨B + 1, 0, none⟩ = some (.pointer (some ⟨B, 0, none⟩)) := by rw [Lib.cell_of_heap he.t]; rfl
  have t2 : w.cell? ⟨B + 2, 0, none⟩ = some (tellF B) := by rw [Lib.cell_of_heap he.f]; rfl
  by_cases n1 : n = 1
  · subst n1
    have HT := Lib.hid (show (V.mk 2 1 s la ll lc L fa fl fc fn F e key hk).told = [121, 101, 115] by simp [V.told])
    rw [HT.out] at hlen
    have HX := Lib.hid (truth_any B l true w.drew ht.drew hlen)
    clear hvL hvF h ha hwd htb he ht hlen hg
    unfold tellF at t2
    go_enter Tryz.func185, Tryz.ntmps185
    go_wp2_with fail
    go_still_tail 6, (by kernel_rfl)
    go_wp2_with fail
    refine HX.out.mono ?_
    rintro x w1 ⟨rfl, hw⟩
    have HW := Lib.hid hw
    clear hw
    go_wp2_with fail
    go_end0
    exact ⟨rfl, by rw [HT.out]; exact drew_wrote HW.out⟩
  · have HT := Lib.hid (show (V.mk 2 n s la ll lc L fa fl fc fn F e key hk).told = [110, 111] by simp [V.told, n1])
    rw [HT.out] at hlen
    have HX := Lib.hid (truth_any B l false w.drew ht.drew hlen)
    have qn : (n == 1) = false := by simp [n1]
    clear hvL hvF h ha hwd htb he ht hlen hg
    unfold tellF at t2
    go_enter Tryz.func185, Tryz.ntmps185
    go_wp2_with fail
    go_still_tail 6, (by kernel_rfl)
    go_wp2_with fail
    refine HX.out.mono ?_
    rintro x w1 ⟨rfl, hw⟩
    have HW := Lib.hid hw
    clear hw
    go_wp2_with fail
    go_end0
    exact ⟨rfl, by rw [HT.out]; exact drew_wrote HW.out⟩

set_option maxRecDepth 100000 in
set_option maxHeartbeats 2000000 in
theorem tell_6f (w0 w : World) (B b o : Nat) (l : List UInt8) (n : Int) (s : ByteArray) (la : Option Addr) (ll lc : Nat) (L : Nat → V) (fa : Option Addr) (fl fc : Nat) (fn : Nat → ByteArray) (F : Nat → V) (e : Nat) (key : ByteArray)
    (hvL : ∀ i, TellOk (L i)) (hvF : ∀ i, TellOk (F i)) (h : (V.mk 6 n s la ll lc L fa fl fc fn F e key false).In w0) (ha : At w0 b o (V.mk 6 n s la ll lc L fa fl fc fn F e key false).cells) (hwd : WordsAt w0) (htb : Lib.TabIs Tryz.prog w0 "internal/strconv.uint64pow10" .u64 Lib.pow10Tab)
    (he : TE B w0 w) (ht : IsT B l w) (hlen : l.length + (V.mk 6 n s la ll lc L fa fl fc fn F e key false).told.length ≤ 140737488355328) (hg : (V.mk 6 n s la ll lc L fa fl fc fn F e key false).good) :
    Calls Tryz.prog 185 #[.pointer (some ⟨b, o, none⟩), .pointer (some ⟨B + 1, 0, none⟩), .pointer (some ⟨B + 2, 0, none⟩)] w fun x w' => x = .returned (.tuple #[]) ∧ Wrote B l (V.mk 6 n s la ll lc L fa fl fc fn F e key false).told w w' := by
  have _u := And.intro hvL (And.intro hvF (And.intro h (And.intro hwd (And.intro htb hg))))
  clear _u
  obtain ⟨c0, c1, c2, c3, c4, c5, c6, c7⟩ := at8 (ha.below (by rw [he.sz]; exact he.below))
  have t1 : w.cell? ⟨B + 1, 0, none⟩ = some (.pointer (some ⟨B, 0, none⟩)) := by rw [Lib.cell_of_heap he.t]; rfl
  have t2 : w.cell? ⟨B + 2, 0, none⟩ = some (tellF B) := by rw [Lib.cell_of_heap he.f]; rfl
  have HT := Lib.hid (show (V.mk 6 n s la ll lc L fa fl fc fn F e key false).told = 60 :: (wordL (e : Nat) ++ (32 :: (quotedL s.data.toList ++ (([]) ++ (32 :: (recL fl fn (fun i => (F i).told) ++ (32 :: (listL ll (fun i => (L i).told) ++ [62])))))))) by simp [V.told])
  rw [HT.out] at hlen
  have HX := Lib.hid (elem_false w0 B b o l n s la ll lc L fa fl fc fn F e key (fun i _ => hvL i) (fun i _ => hvF i) w h hg ha hwd htb he ht hlen)
  unfold tellF at HX
  clear hvL hvF h ha hwd htb he ht hlen hg
  unfold tellF at t2
  go_enter Tryz.func185, Tryz.ntmps185
  go_wp2_with fail
  refine HX.out.mono ?_
  rintro x w1 ⟨rfl, hw⟩
  have HW := Lib.hid hw
  clear hw
  go_wp2_with fail
  go_end0
  exact ⟨rfl, by rw [HT.out]; exact HW.out⟩

set_option maxRecDepth 100000 in
set_option maxHeartbeats 2000000 in
theorem tell_6t (w0 w : World) (B b o : Nat) (l : List UInt8) (n : Int) (s : ByteArray) (la : Option Addr) (ll lc : Nat) (L : Nat → V) (fa : Option Addr) (fl fc : Nat) (fn : Nat → ByteArray) (F : Nat → V) (e : Nat) (key : ByteArray)
    (hvL : ∀ i, TellOk (L i)) (hvF : ∀ i, TellOk (F i)) (h : (V.mk 6 n s la ll lc L fa fl fc fn F e key true).In w0) (ha : At w0 b o (V.mk 6 n s la ll lc L fa fl fc fn F e key true).cells) (hwd : WordsAt w0) (htb : Lib.TabIs Tryz.prog w0 "internal/strconv.uint64pow10" .u64 Lib.pow10Tab)
    (he : TE B w0 w) (ht : IsT B l w) (hlen : l.length + (V.mk 6 n s la ll lc L fa fl fc fn F e key true).told.length ≤ 140737488355328) (hg : (V.mk 6 n s la ll lc L fa fl fc fn F e key true).good) :
    Calls Tryz.prog 185 #[.pointer (some ⟨b, o, none⟩), .pointer (some ⟨B + 1, 0, none⟩), .pointer (some ⟨B + 2, 0, none⟩)] w fun x w' => x = .returned (.tuple #[]) ∧ Wrote B l (V.mk 6 n s la ll lc L fa fl fc fn F e key true).told w w' := by
  have _u := And.intro hvL (And.intro hvF (And.intro h (And.intro hwd (And.intro htb hg))))
  clear _u
  obtain ⟨c0, c1, c2, c3, c4, c5, c6, c7⟩ := at8 (ha.below (by rw [he.sz]; exact he.below))
  have t1 : w.cell? ⟨B + 1, 0, none⟩ = some (.pointer (some ⟨B, 0, none⟩)) := by rw [Lib.cell_of_heap he.t]; rfl
  have t2 : w.cell? ⟨B + 2, 0, none⟩ = some (tellF B) := by rw [Lib.cell_of_heap he.f]; rfl
  have HT := Lib.hid (show (V.mk 6 n s la ll lc L fa fl fc fn F e key true).told = 60 :: (wordL (e : Nat) ++ (32 :: (quotedL s.data.toList ++ (([32, 107, 101, 121, 32] ++ quotedL key.data.toList) ++ (32 :: (recL fl fn (fun i => (F i).told) ++ (32 :: (listL ll (fun i => (L i).told) ++ [62])))))))) by simp [V.told])
  rw [HT.out] at hlen
  have HX := Lib.hid (elem_true w0 B b o l n s la ll lc L fa fl fc fn F e key (fun i _ => hvL i) (fun i _ => hvF i) w h hg ha hwd htb he ht hlen)
  unfold tellF at HX
  clear hvL hvF h ha hwd htb he ht hlen hg
  unfold tellF at t2
  go_enter Tryz.func185, Tryz.ntmps185
  go_wp2_with fail
  refine HX.out.mono ?_
  rintro x w1 ⟨rfl, hw⟩
  have HW := Lib.hid hw
  clear hw
  go_wp2_with fail
  go_end0
  exact ⟨rfl, by rw [HT.out]; exact HW.out⟩

set_option maxRecDepth 100000 in
set_option maxHeartbeats 2000000 in
/-- Some other kind: nothing is written. -/
theorem tell_9 (w0 w : World) (B b o : Nat) (l : List UInt8) (k n : Int) (s : ByteArray) (la : Option Addr) (ll lc : Nat) (L : Nat → V) (fa : Option Addr) (fl fc : Nat) (fn : Nat → ByteArray) (F : Nat → V) (e : Int) (key : ByteArray) (hk : Bool)
    (ha : At w0 b o (V.mk k n s la ll lc L fa fl fc fn F e key hk).cells) (hk7 : 7 < k)
    (he : TE B w0 w) (ht : IsT B l w) :
    Calls Tryz.prog 185 #[.pointer (some ⟨b, o, none⟩), .pointer (some ⟨B + 1, 0, none⟩), .pointer (some ⟨B + 2, 0, none⟩)] w fun x w' => x = .returned (.tuple #[]) ∧ Wrote B l (V.mk k n s la ll lc L fa fl fc fn F e key hk).told w w' := by
  obtain ⟨c0, c1, c2, c3, c4, c5, c6, c7⟩ := at8 (ha.below (by rw [he.sz]; exact he.below))
  have t1 : w.cell? ⟨B + 1, 0, none⟩ = some (.pointer (some ⟨B, 0, none⟩)) := by rw [Lib.cell_of_heap he.t]; rfl
  have t2 : w.cell? ⟨B + 2, 0, none⟩ = some (tellF B) := by rw [Lib.cell_of_heap he.f]; rfl
  have q0 : (k == 0) = false := by simp; omega
  have q1 : (k == 1) = false := by simp; omega
  have q2 : (k == 2) = false := by simp; omega
  have q3 : (k == 3) = false := by simp; omega
  have q4 : (k == 4) = false := by simp; omega
  have q5 : (k == 5) = false := by simp; omega
  have q6 : (k == 6) = false := by simp; omega
  have q7 : (k == 7) = false := by simp; omega
  have HX := Lib.hid (show Wrote B l (V.mk k n s la ll lc L fa fl fc fn F e key hk).told w w by
    have hT : (V.mk k n s la ll lc L fa fl fc fn F e key hk).told = [] := by
      simp only [beq_eq_false_iff_ne, ne_eq] at q0 q1 q2 q3 q4 q5 q6 q7
      simp only [V.told, if_neg q0, if_neg q1, if_neg q2, if_neg q3, if_neg q4, if_neg q5, if_neg q6, if_neg q7]
    rw [hT]
    exact Wrote.nil ht)
  clear ha he ht hk7
  unfold tellF at t2
  go_enter Tryz.func185, Tryz.ntmps185
  go_wp2_with fail
  go_end0
  exact ⟨rfl, HX.out⟩

theorem tell_any : ∀ v : V, TellOk v := by
  intro v
  induction v with
  | leaf => exact fun w0 w B b o l h => h.elim
  | mk k n s la ll lc L fa fl fc fn F e key hk ihL ihF =>
  intro w0 w B b o l h ha hwd htb he ht hlen hg
  have hk0 := h.1.1
  by_cases k7 : 7 < k
  · exact tell_9 w0 w B b o l k n s la ll lc L fa fl fc fn F e key hk ha k7 he ht
  have hm : k = 0 ∨ k = 1 ∨ k = 2 ∨ k = 3 ∨ k = 4 ∨ k = 5 ∨ k = 6 ∨ k = 7 := by omega
  clear hk0 k7
  rcases hm with rfl | rfl | rfl | rfl | rfl | rfl | rfl | rfl
  · exact tell_0 w0 w B b o l n s la ll lc L fa fl fc fn F e key hk ihL ihF h ha hwd htb he ht hlen hg
  · exact tell_1 w0 w B b o l n s la ll lc L fa fl fc fn F e key hk ihL ihF h ha hwd htb he ht hlen hg
  · exact tell_2 w0 w B b o l n s la ll lc L fa fl fc fn F e key hk ihL ihF h ha hwd htb he ht hlen hg
  · exact tell_3 w0 w B b o l n s la ll lc L fa fl fc fn F e key hk ihL ihF h ha hwd htb he ht hlen hg
  · exact tell_4 w0 w B b o l n s la ll lc L fa fl fc fn F e key hk ihL ihF h ha hwd htb he ht hlen hg
  · exact tell_5 w0 w B b o l n s la ll lc L fa fl fc fn F e key hk ihL ihF h ha hwd htb he ht hlen hg
  · have h8 := hg.1 rfl
    obtain ⟨e', rfl⟩ : ∃ e' : Nat, e = e' := ⟨e.toNat, by omega⟩
    cases hk with
    | false => exact tell_6f w0 w B b o l n s la ll lc L fa fl fc fn F e' key ihL ihF h ha hwd htb he ht hlen hg
    | true => exact tell_6t w0 w B b o l n s la ll lc L fa fl fc fn F e' key ihL ihF h ha hwd htb he ht hlen hg
  · exact tell_7 w0 w B b o l n s la ll lc L fa fl fc fn F e key hk ihL ihF h ha hwd htb he ht hlen hg

end Go.Proofs.YtajmdhcknmmbbaaGreatDoor
