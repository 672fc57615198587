/-
  Layer 13, plainly: a log keeps its records under each write, a crash and an Open.
  Layer 13, plainly: what a write of the disk answers, and what it makes of the files.
  Layer 13, plainly: Append, Sync and Trim of a log, and that it keeps its records, whatever goes down.
  Layer 13, plainly: Trim; and a log that was left, behind a crash and an Open.
  Layer 13, plainly: a segment's name and its number; rows of numbers that rise.
  Layer 13, plainly: a segment's name as the library writes it and reads it back.
-/
import Derived.Test.YtelcemfaijjcbaaGreatDoorHP13Pr
import Derived.Lib.ItoaNum
import Derived.Lib.Atoi
namespace Go.Proofs.YtelcemfaijjcbaaGreatDoor.C13
open Go Go.RowKit Go.Proofs Go.Proofs.YtelcemfaijjcbaaGreatDoor.B Go.Proofs.YtelcemfaijjcbaaGreatDoor.K Go.Proofs.YtelcemfaijjcbaaGreatDoor.C12
set_option linter.unusedVariables false

/-- A segment has records of these, from its number on. -/
structure Has (recs : List (List UInt8)) (s : Seg) : Prop where
  low : 0 ≤ s.n
  most : s.n.toNat + s.rs.length ≤ recs.length
  same : s.rs = (recs.drop s.n.toNat).take s.rs.length
theorem Has.more {recs : List (List UInt8)} {s : Seg} (h : Has recs s) (r : List (List UInt8)) : Has (recs ++ r) s := by
  refine ⟨h.low, by rw [List.length_append]; have := h.most; omega, ?_⟩
  have h1 := h.most
  have h2 := h.same
  rw [List.drop_append_of_le_length (by omega), List.take_append_of_le_length (by rw [List.length_drop]; omega)]
  exact h2
theorem Has.take {recs : List (List UInt8)} {s : Seg} (h : Has recs s) (m : Nat) (hm : m ≤ s.rs.length) : Has recs ⟨s.n, s.rs.take m⟩ := by
  have hl : (s.rs.take m).length = m := by rw [List.length_take]; omega
  refine ⟨h.low, by show s.n.toNat + (s.rs.take m).length ≤ _; have := h.most; omega, ?_⟩
  show s.rs.take m = (recs.drop s.n.toNat).take (s.rs.take m).length
  rw [hl]
  conv => lhs; rw [h.same]
  rw [List.take_take, Nat.min_eq_left hm]
theorem Has.snoc {recs : List (List UInt8)} {s : Seg} (h : Has recs s) (hl : s.n.toNat + s.rs.length = recs.length) (r : List UInt8) : Has (recs ++ [r]) ⟨s.n, s.rs ++ [r]⟩ := by
  have e : s.rs = recs.drop s.n.toNat := by
    have := h.same
    rwa [List.take_of_length_le (by rw [List.length_drop]; omega)] at this
  refine ⟨h.low, by show s.n.toNat + (s.rs ++ [r]).length ≤ (recs ++ [r]).length; rw [List.length_append, List.length_append]; simp only [List.length_singleton]; omega, ?_⟩
  show s.rs ++ [r] = ((recs ++ [r]).drop s.n.toNat).take (s.rs ++ [r]).length
  rw [List.drop_append_of_le_length (by omega), ← e, List.take_of_length_le (Nat.le_refl _)]

structure Keeps (nm : Int → List UInt8) (recs : List (List UInt8)) (fs : List Fl) (i : List Seg) (s : Seg) (u : Int) : Prop where
  holds : Holds nm fs (i ++ [s])
  has : ∀ a ∈ i ++ [s], Has recs a
  big : ∀ r ∈ recs, r.length ≤ 1024
  few : recs.length ≤ 4611686018427387904
  low : s.n ≤ u
  high : u ≤ s.n + s.rs.length
  safe : ∀ f, findF fs (nm s.n) = some f → (encL s.n (s.rs.take (u - s.n).toNat)).length ≤ f.safe.length
theorem Has.small {recs : List (List UInt8)} {s : Seg} (h : Has recs s) (hb : ∀ r ∈ recs, r.length ≤ 1024) : ∀ r ∈ s.rs, r.length ≤ 1024 := fun r hr => by
  rw [h.same] at hr
  exact hb r (List.mem_of_mem_drop (List.mem_of_mem_take hr))
section
variable {nm : Int → List UInt8} {recs : List (List UInt8)} {fs : List Fl} {i : List Seg} {s : Seg} {u : Int}
theorem Keeps.mem (h : Keeps nm recs fs i s u) : s ∈ i ++ [s] := List.mem_append_right _ (List.mem_singleton.2 rfl)
/-- A record more in the last segment. -/
theorem Keeps.append (h : Keeps nm recs fs i s u) (hl : s.n.toNat + s.rs.length = recs.length) (r : List UInt8) (hr : r.length ≤ 1024) (hf1 : recs.length + 1 ≤ 4611686018427387904) {f : Fl} (hf : findF fs (nm s.n) = some f) : Keeps nm (recs ++ [r]) (setF fs ⟨nm s.n, f.safe, f.more ++ recB (s.n + s.rs.length) r⟩) i ⟨s.n, s.rs ++ [r]⟩ u := by
  have hs := h.has s h.mem
  obtain ⟨f', hf', he⟩ := h.holds.each s h.mem
  obtain rfl : f = f' := by rw [hf] at hf'; exact Option.some.inj hf'
  refine ⟨h.holds.but.put _ ⟨s.n, s.rs ++ [r]⟩ rfl rfl ?_, fun a ha => ?_, fun x hx => ?_, by rw [List.length_append]; simpa using hf1, h.low, ?_, fun g hg => ?_⟩
  · show f.safe ++ (f.more ++ _) = encL s.n (s.rs ++ [r])
    rw [enc_app, ← List.append_assoc, he]
  · rcases List.mem_append.1 ha with h1 | h1
    · exact (h.has a (List.mem_append_left _ h1)).more [r]
    · obtain rfl := List.mem_singleton.1 h1
      exact hs.snoc hl r
  · rcases List.mem_append.1 hx with h1 | h1
    · exact h.big x h1
    · rw [List.mem_singleton.1 h1]; exact hr
  · show u ≤ s.n + ((s.rs ++ [r]).length : Int)
    rw [List.length_append]
    have := h.high
    simp only [List.length_singleton]
    omega
  · have hg2 := find_set_self h.holds.rise ⟨nm s.n, f.safe, f.more ++ recB (s.n + s.rs.length) r⟩
    rw [hg2] at hg
    cases hg
    show (encL s.n ((s.rs ++ [r]).take (u - s.n).toNat)).length ≤ f.safe.length
    rw [List.take_append_of_le_length (by have := h.high; have := h.low; omega)]
    exact h.safe f hf
/-- All of the last segment made safe. -/
theorem Keeps.sync (h : Keeps nm recs fs i s u) {f : Fl} (hf : findF fs (nm s.n) = some f) : Keeps nm recs (setF fs ⟨nm s.n, f.safe ++ f.more, []⟩) i s (s.n + s.rs.length) := by
  obtain ⟨f', hf', he⟩ := h.holds.each s h.mem
  obtain rfl : f = f' := by rw [hf] at hf'; exact Option.some.inj hf'
  refine ⟨h.holds.but.put _ s rfl rfl ?_, h.has, h.big, h.few, by omega, Int.le_refl _, fun g hg => ?_⟩
  · show (f.safe ++ f.more) ++ [] = _
    rw [List.append_nil, he]
  · have hg2 := find_set_self h.holds.rise ⟨nm s.n, f.safe ++ f.more, []⟩
    rw [hg2] at hg
    cases hg
    show _ ≤ (f.safe ++ f.more).length
    rw [he]
    exact (enc_take _ _ _).2
/-- A record that is the first of a new segment. -/
theorem Keeps.new (h : Keeps nm recs fs i s (s.n + s.rs.length)) (hl : s.n.toNat + s.rs.length = recs.length) (hne : s.rs ≠ []) (hfirm : ∀ f, findF fs (nm s.n) = some f → f.more = []) (r : List UInt8) (hr : r.length ≤ 1024) (hf1 : recs.length + 1 ≤ 4611686018427387904) (hinj : ∀ a ∈ i ++ [s], nm a.n ≠ nm (s.n + s.rs.length)) : Keeps nm (recs ++ [r]) (setF fs ⟨nm (s.n + s.rs.length), [], recB (s.n + s.rs.length) r⟩) (i ++ [s]) ⟨s.n + s.rs.length, [r]⟩ (s.n + s.rs.length) := by
  have hs := h.has s h.mem
  have hlow := hs.low
  refine ⟨h.holds.more hne rfl hfirm _ rfl ?_ hinj, fun a ha => ?_, fun x hx => ?_, by rw [List.length_append]; simpa using hf1, Int.le_refl _, by show s.n + (s.rs.length : Int) ≤ s.n + (s.rs.length : Int) + (([r] : List (List UInt8)).length : Int); simp only [List.length_singleton]; omega, fun g hg => ?_⟩
  · simp [encL]
  · rcases List.mem_append.1 ha with h1 | h1
    · exact (h.has a h1).more [r]
    · obtain rfl := List.mem_singleton.1 h1
      have e : (s.n + (s.rs.length : Int)).toNat = recs.length := by omega
      refine ⟨by show 0 ≤ s.n + (s.rs.length : Int); omega, ?_, ?_⟩
      · show (s.n + (s.rs.length : Int)).toNat + 1 ≤ _
        rw [e, List.length_append]
        simp
      · show [r] = ((recs ++ [r]).drop (s.n + (s.rs.length : Int)).toNat).take 1
        rw [e, List.drop_left]
        rfl
  · rcases List.mem_append.1 hx with h1 | h1
    · exact h.big x h1
    · rw [List.mem_singleton.1 h1]; exact hr
  · show (encL _ (([r] : List (List UInt8)).take (s.n + (s.rs.length : Int) - (s.n + (s.rs.length : Int))).toNat)).length ≤ _
    rw [Int.sub_self]
    exact Nat.zero_le _
/-- The first segment trimmed. -/
theorem Keeps.gone {a : Seg} (h : Keeps nm recs fs (a :: i) s u) : Keeps nm recs (dropF fs (nm a.n)) i s u := by
  have hne : i ++ [s] ≠ [] := by simp
  refine ⟨h.holds.gone hne, fun b hb => h.has b (List.mem_cons_of_mem _ hb), h.big, h.few, h.low, h.high, fun f hf => ?_⟩
  have hlt : nm a.n ≠ nm s.n := fun e => by
    have h1 := linked_lt (l := i ++ [s]) h.holds.link s (List.mem_append_right _ (List.mem_singleton.2 rfl))
    have h2 := h.holds.inj a (List.mem_cons_self ..) s (List.mem_cons_of_mem _ (List.mem_append_right _ (List.mem_singleton.2 rfl))) e
    omega
  rw [find_drop_other h.holds.rise hlt] at hf
  exact h.safe f hf
/-- Behind a crash: what is read of the last segment are its first m records, at least those that were safe; and with the torn bytes cut off the log is whole again. -/
theorem Keeps.open (h : Keeps nm recs fs i s u) (keep : List Int) : ∃ p m, m ≤ s.rs.length ∧ u ≤ s.n + m ∧ But nm (crashGo fs keep) i s ∧ findF (crashGo fs keep) (nm s.n) = some ⟨nm s.n, (encL s.n s.rs).take p, []⟩ ∧ p ≤ (encL s.n s.rs).length ∧
    parseL ((encL s.n s.rs).take p) s.n = (s.rs.take m, (encL s.n (s.rs.take m)).length) ∧ (encL s.n (s.rs.take m)).length ≤ p ∧
    (∀ a ∈ i, parseL (encL a.n a.rs) a.n = (a.rs, (encL a.n a.rs).length)) ∧
    Keeps nm recs (setF (crashGo fs keep) ⟨nm s.n, encL s.n (s.rs.take m), []⟩) i ⟨s.n, s.rs.take m⟩ (s.n + m) := by
  have hs := h.has s h.mem
  obtain ⟨hb, f, p, hf, hp1, hp2, hp3⟩ := h.holds.crash keep
  have hfit : ∀ a ∈ i ++ [s], a.n + (a.rs.length : Int) ≤ 4611686018427387904 := fun a ha => by
    have h1 := (h.has a ha).most
    have h2 := (h.has a ha).low
    have h3 := h.few
    omega
  obtain ⟨m, hm, hq, hlen, hmax⟩ := parse_some_of hs.low (hfit s h.mem) (hs.small h.big) hp2
  have hu : (u - s.n).toNat ≤ m := hmax _ (by have := h.high; have := h.low; omega) (Nat.le_trans (h.safe f hf) hp1)
  have hml : (s.rs.take m).length = m := by rw [List.length_take]; omega
  refine ⟨p, m, hm, by have := h.low; omega, hb, hp3, hp2, hq, hlen, fun a ha => ?_, ?_⟩
  · have ha' := h.has a (List.mem_append_left _ ha)
    exact parse_whole ha'.low (hfit a (List.mem_append_left _ ha)) (ha'.small h.big)
  · refine ⟨hb.put _ ⟨s.n, s.rs.take m⟩ rfl rfl (List.append_nil _), fun a ha => ?_, h.big, h.few, by show s.n ≤ s.n + (m : Int); omega, by show s.n + (m : Int) ≤ s.n + ((s.rs.take m).length : Int); rw [hml]; omega, fun g hg => ?_⟩
    · rcases List.mem_append.1 ha with h1 | h1
      · exact h.has a (List.mem_append_left _ h1)
      · obtain rfl := List.mem_singleton.1 h1
        exact hs.take m hm
    · have hg2 := find_set_self hb.rise ⟨nm s.n, encL s.n (s.rs.take m), []⟩
      rw [hg2] at hg
      cases hg
      exact (enc_take _ _ _).2
end
/-- The records of all segments, and the first one's number. -/
def flatS (l : List Seg) : List (List UInt8) := l.flatMap Seg.rs
def firstS : List Seg → Int
  | [] => 0
  | s :: _ => s.n
theorem next_cons {s t : Seg} {l : List Seg} : nextS (s :: t :: l) = nextS (t :: l) := rfl
/-- All records of a log are those from the first one's number on. -/
theorem flat_has (recs : List (List UInt8)) : ∀ (l : List Seg), l ≠ [] → Linked l → (∀ a ∈ l, Has recs a) → (firstS l).toNat + (flatS l).length = (nextS l).toNat ∧ (nextS l).toNat ≤ recs.length ∧ flatS l = (recs.drop (firstS l).toNat).take (flatS l).length
  | [], h, _, _ => absurd rfl h
  | [s], _, _, h => by
    have hs := h s (List.mem_cons_self ..)
    have e : flatS [s] = s.rs := by unfold flatS; simp
    rw [e]
    have h1 := hs.most
    have h2 := hs.low
    exact ⟨by show s.n.toNat + _ = (s.n + (s.rs.length : Int)).toNat; omega, by show (s.n + (s.rs.length : Int)).toNat ≤ _; omega, hs.same⟩
  | s :: t :: l, _, hl, h => by
    have hs := h s (List.mem_cons_self ..)
    obtain ⟨i1, i2, i3⟩ := flat_has recs (t :: l) (by simp) (linked_tail hl) fun a ha => h a (List.mem_cons_of_mem _ ha)
    have e : flatS (s :: t :: l) = s.rs ++ flatS (t :: l) := by unfold flatS; simp
    have hn : t.n = s.n + s.rs.length := hl.2.1
    have h2 := hs.low
    rw [e, next_cons, List.length_append]
    have ht : (firstS (t :: l)).toNat = s.n.toNat + s.rs.length := by show t.n.toNat = _; omega
    rw [ht] at i1 i3
    refine ⟨by show s.n.toNat + _ = _; omega, i2, ?_⟩
    show s.rs ++ flatS (t :: l) = (recs.drop s.n.toNat).take _
    rw [List.take_add, ← hs.same, List.drop_drop, ← i3]
end Go.Proofs.YtelcemfaijjcbaaGreatDoor.C13

namespace Go.Proofs.YtelcemfaijjcbaaGreatDoor.C13
open Go Go.RowKit Go.Proofs Go.Proofs.YtelcemfaijjcbaaGreatDoor.B Go.Proofs.YtelcemfaijjcbaaGreatDoor.K Go.Proofs.YtelcemfaijjcbaaGreatDoor.C12
set_option linter.unusedVariables false

theorem goes_down {D : Dst} (hd : D.down = false) : (goesD D).1.down = (goesD D).2 := by
  unfold goesD
  split
  · exact hd
  · rfl
/-- Down, or not: told by the answer. -/
def Told (e : Int) (D : Dst) : Prop := (e = 0 ∧ D.down = false) ∨ (e = 11 ∧ D.down = true)
theorem append_cases {D : Dst} (hd : D.down = false) (s t : List UInt8) : appendD D s t = (D, 2) ∨ appendD D s t = (D, 10) ∨ (Told (appendD D s t).2 (appendD D s t).1 ∧ (appendD D s t).1.files = setF D.files { ((findF D.files s).getD ⟨s, [], []⟩) with more := ((findF D.files s).getD ⟨s, [], []⟩).more ++ t }) := by
  unfold appendD
  rw [hd, if_neg (by simp)]
  split
  · exact Or.inl rfl
  · split
    · exact Or.inr (Or.inl rfl)
    · refine Or.inr (Or.inr ⟨?_, goes_files _⟩)
      have h := goes_down (D := putF D { ((findF D.files s).getD ⟨s, [], []⟩) with more := ((findF D.files s).getD ⟨s, [], []⟩).more ++ t }) hd
      dsimp only
      cases e : (goesD (putF D { ((findF D.files s).getD ⟨s, [], []⟩) with more := ((findF D.files s).getD ⟨s, [], []⟩).more ++ t })).2 with
      | true => rw [e] at h; exact Or.inr ⟨rfl, h⟩
      | false => rw [e] at h; exact Or.inl ⟨rfl, h⟩
theorem go_cases {D : Dst} (hd : D.down = false) (k : Dst → Dst) : ((goD D k).2 = 11 ∧ (goD D k).1.down = true ∧ (goD D k).1.files = D.files) ∨ ((goD D k).2 = 0 ∧ ∃ E : Dst, E.files = D.files ∧ E.down = false ∧ (goD D k).1 = k E) := by
  unfold goD
  have h := goes_down hd
  cases e : (goesD D).2 with
  | true => rw [e] at h; exact Or.inl ⟨by simp, by simpa using h, by simpa using goes_files D⟩
  | false => rw [e] at h; exact Or.inr ⟨by simp, (goesD D).1, goes_files D, h, by simp⟩
theorem sync_cases {D : Dst} (hd : D.down = false) {s : List UInt8} {f : Fl} (hf : findF D.files s = some f) : ((syncD D s).2 = 11 ∧ (syncD D s).1.down = true ∧ (syncD D s).1.files = D.files) ∨ ((syncD D s).2 = 0 ∧ (syncD D s).1.down = false ∧ (syncD D s).1.files = setF D.files ⟨s, f.safe ++ f.more, []⟩) := by
  have e : syncD D s = goD D fun E => putF E ⟨s, f.safe ++ f.more, []⟩ := by
    unfold syncD someD
    rw [hd, if_neg (by simp), hf]
  rw [e]
  rcases go_cases hd (fun E => putF E ⟨s, f.safe ++ f.more, []⟩) with h | ⟨h1, E, h2, h3, h4⟩
  · exact Or.inl h
  · exact Or.inr ⟨h1, by rw [h4]; exact h3, by rw [h4]; show setF E.files _ = _; rw [h2]⟩
theorem remove_cases {D : Dst} (hd : D.down = false) {s : List UInt8} {f : Fl} (hf : findF D.files s = some f) : ((removeD D s).2 = 11 ∧ (removeD D s).1.down = true ∧ (removeD D s).1.files = D.files) ∨ ((removeD D s).2 = 0 ∧ (removeD D s).1.down = false ∧ (removeD D s).1.files = dropF D.files s) := by
  have e : removeD D s = goD D fun E => { E with files := dropF E.files s } := by
    unfold removeD someD
    rw [hd, if_neg (by simp), hf]
  rw [e]
  rcases go_cases hd (fun E => { E with files := dropF E.files s }) with h | ⟨h1, E, h2, h3, h4⟩
  · exact Or.inl h
  · exact Or.inr ⟨h1, by rw [h4]; exact h3, by rw [h4]; show dropF E.files _ = _; rw [h2]⟩
theorem trunc_cases {D : Dst} (hd : D.down = false) {s : List UInt8} {f : Fl} (hf : findF D.files s = some f) {n : Nat} (hn : n ≤ f.safe.length) : ((truncD D s n).2 = 11 ∧ (truncD D s n).1.down = true ∧ (truncD D s n).1.files = D.files) ∨ ((truncD D s n).2 = 0 ∧ (truncD D s n).1.down = false ∧ (truncD D s n).1.files = setF D.files ⟨s, f.safe.take n, []⟩) := by
  have e : truncD D s n = goD D fun E => putF E ⟨s, f.safe.take n, []⟩ := by
    unfold truncD someD
    rw [hd, if_neg (by simp), hf]
    dsimp only
    rw [if_neg (by omega)]
    congr 1
    funext E
    rw [if_pos (by omega), Int.toNat_natCast]
  rw [e]
  rcases go_cases hd (fun E => putF E ⟨s, f.safe.take n, []⟩) with h | ⟨h1, E, h2, h3, h4⟩
  · exact Or.inl h
  · exact Or.inr ⟨h1, by rw [h4]; exact h3, by rw [h4]; show setF E.files _ = _; rw [h2]⟩
theorem read_file {D : Dst} (hd : D.down = false) {s : List UInt8} {f : Fl} (hf : findF D.files s = some f) : readD D s = (f.safe ++ f.more, 0) := by
  unfold readD
  rw [hd, if_neg (by simp), hf]
end Go.Proofs.YtelcemfaijjcbaaGreatDoor.C13

namespace Go.Proofs.YtelcemfaijjcbaaGreatDoor.C13
open Go Go.RowKit Go.Proofs Go.Proofs.YtelcemfaijjcbaaGreatDoor.B Go.Proofs.YtelcemfaijjcbaaGreatDoor.K Go.Proofs.YtelcemfaijjcbaaGreatDoor.C12
set_option linter.unusedVariables false

/-- A log on its disk: its segments, and what is safe. -/
structure Lg where
  D : Dst
  l : List Seg
  u : Int
section
variable (nm : Int → List UInt8)
/-- A record into the last segment, or into a new one if that is full. -/
def appG (M : Nat) (L : Lg) (r : List UInt8) : Lg × Int × Int :=
  match L.l.getLast? with
  | none => if (appendD L.D (nm 0) (recB 0 r)).2 = 0 then (⟨(appendD L.D (nm 0) (recB 0 r)).1, [⟨0, [r]⟩], 0⟩, 0, 0) else (⟨(appendD L.D (nm 0) (recB 0 r)).1, [], 0⟩, 0, (appendD L.D (nm 0) (recB 0 r)).2)
  | some t =>
    if M ≤ (encL t.n t.rs).length then
      if (syncD L.D (nm t.n)).2 = 0 then
        if (appendD (syncD L.D (nm t.n)).1 (nm (t.n + t.rs.length)) (recB (t.n + t.rs.length) r)).2 = 0 then (⟨(appendD (syncD L.D (nm t.n)).1 (nm (t.n + t.rs.length)) (recB (t.n + t.rs.length) r)).1, L.l ++ [⟨t.n + t.rs.length, [r]⟩], t.n + t.rs.length⟩, t.n + t.rs.length, 0)
        else (⟨(appendD (syncD L.D (nm t.n)).1 (nm (t.n + t.rs.length)) (recB (t.n + t.rs.length) r)).1, L.l, t.n + t.rs.length⟩, 0, (appendD (syncD L.D (nm t.n)).1 (nm (t.n + t.rs.length)) (recB (t.n + t.rs.length) r)).2)
      else (⟨(syncD L.D (nm t.n)).1, L.l, L.u⟩, 0, (syncD L.D (nm t.n)).2)
    else
      if (appendD L.D (nm t.n) (recB (t.n + t.rs.length) r)).2 = 0 then (⟨(appendD L.D (nm t.n) (recB (t.n + t.rs.length) r)).1, L.l.dropLast ++ [⟨t.n, t.rs ++ [r]⟩], L.u⟩, t.n + t.rs.length, 0)
      else (⟨(appendD L.D (nm t.n) (recB (t.n + t.rs.length) r)).1, L.l, L.u⟩, 0, (appendD L.D (nm t.n) (recB (t.n + t.rs.length) r)).2)
def syncG (L : Lg) : Lg × Int :=
  match L.l.getLast? with
  | none => (⟨L.D, L.l, 0⟩, 0)
  | some t => if (syncD L.D (nm t.n)).2 = 0 then (⟨(syncD L.D (nm t.n)).1, L.l, t.n + t.rs.length⟩, 0) else (⟨(syncD L.D (nm t.n)).1, L.l, L.u⟩, (syncD L.D (nm t.n)).2)
/-- As it may be: nothing is down, all records are there. -/
inductive Good (recs : List (List UInt8)) : Lg → Prop
  | none (D : Dst) (h : recs = []) (hf : D.files = []) (hd : D.down = false) : Good recs ⟨D, [], 0⟩
  | some (D : Dst) (i : List Seg) (s : Seg) (u : Int) (h : Keeps nm recs D.files i s u) (hl : s.n.toNat + s.rs.length = recs.length) (hd : D.down = false) : Good recs ⟨D, i ++ [s], u⟩
/-- As it may be left: of the records at least those that are safe. -/
inductive Left (recs : List (List UInt8)) (D : Dst) (u : Int) : Prop
  | none (hf : D.files = []) (hu : u = 0) : Left recs D u
  | some (r : List (List UInt8)) (i : List Seg) (s : Seg) (hr : r <+: recs) (h : Keeps nm r D.files i s u) : Left recs D u
variable {nm}
theorem Good.left {recs : List (List UInt8)} {L : Lg} (h : Good nm recs L) (r : List (List UInt8)) : Left nm (recs ++ r) L.D L.u := by
  cases h with
  | none D h hf hd => exact Left.none hf rfl
  | some D i s u h hl hd => exact Left.some recs i s (List.prefix_append _ _) h
theorem keeps_first (D : Dst) (hf : D.files = []) (r : List UInt8) (hr : r.length ≤ 1024) : Keeps nm [r] (setF D.files ⟨nm 0, [], recB 0 r⟩) [] ⟨0, [r]⟩ 0 := by
  have e : setF D.files ⟨nm 0, [], recB 0 r⟩ = [⟨nm 0, [], recB 0 r⟩] := by rw [hf]; rfl
  have hfi : findF [⟨nm 0, [], recB 0 r⟩] (nm 0) = some (⟨nm 0, [], recB 0 r⟩ : Fl) := by unfold findF; simp
  rw [e]
  refine ⟨⟨List.pairwise_singleton _ _, trivial, fun a ha => ?_, fun f hf => ?_, fun a ha => (by cases ha), fun a ha b hb _ => ?_⟩, fun a ha => ?_, fun x hx => ?_, by show 1 ≤ _; omega, Int.le_refl _, by show (0 : Int) ≤ 0 + 1; omega, fun f hf => Nat.zero_le _⟩
  · obtain rfl := List.mem_singleton.1 ha
    exact ⟨_, hfi, by simp [encL]⟩
  · obtain rfl := List.mem_singleton.1 hf
    exact ⟨_, List.mem_singleton.2 rfl, rfl⟩
  · rw [List.mem_singleton.1 ha, List.mem_singleton.1 hb]
  · obtain rfl := List.mem_singleton.1 ha
    exact ⟨Int.le_refl _, by show 0 + 1 ≤ 1; omega, rfl⟩
  · rw [List.mem_singleton.1 hx]; exact hr
theorem Keeps.find {recs : List (List UInt8)} {fs : List Fl} {i : List Seg} {s : Seg} {u : Int} (h : Keeps nm recs fs i s u) : ∃ f, findF fs (nm s.n) = some f ∧ f.name = nm s.n := by
  obtain ⟨f, hf, _⟩ := h.holds.each s h.mem
  exact ⟨f, hf, (find_facts hf).2⟩
theorem app_good {recs : List (List UInt8)} {L : Lg} (h : Good nm recs L) {M : Nat} (hM : 1 ≤ M) (r : List UInt8) (hr : r.length ≤ 1024) (hb : recs.length + 1 ≤ 4611686018427387904) (hinj : ∀ a b : Int, 0 ≤ a → 0 ≤ b → nm a = nm b → a = b) :
    ((appG nm M L r).2 = ((recs.length : Int), 0) ∧ Good nm (recs ++ [r]) (appG nm M L r).1) ∨ ((appG nm M L r).2.2 ≠ 0 ∧ Left nm (recs ++ [r]) (appG nm M L r).1.D (appG nm M L r).1.u) := by
  cases h with
  | none D h hf hd =>
    subst h
    have hfi : findF D.files (nm 0) = none := by rw [hf]; rfl
    have hc := append_cases hd (nm 0) (recB 0 r)
    rw [hfi] at hc
    simp only [Option.getD_none, List.nil_append] at hc
    unfold appG
    simp only [List.getLast?_nil]
    rcases hc with h1 | h1 | ⟨h1, h2⟩
    · rw [h1, if_neg (by simp)]
      exact Or.inr ⟨by simp, Left.none hf rfl⟩
    · rw [h1, if_neg (by simp)]
      exact Or.inr ⟨by simp, Left.none hf rfl⟩
    · have hk : Keeps nm [r] (appendD D (nm 0) (recB 0 r)).1.files [] ⟨0, [r]⟩ 0 := by rw [h2]; exact keeps_first D hf r hr
      rcases h1 with ⟨e, hd'⟩ | ⟨e, hd'⟩
      · rw [if_pos e]
        exact Or.inl ⟨rfl, Good.some _ [] ⟨0, [r]⟩ 0 hk rfl hd'⟩
      · rw [if_neg (by rw [e]; decide)]
        exact Or.inr ⟨by rw [e]; decide, Left.some [r] [] ⟨0, [r]⟩ (List.prefix_refl _) hk⟩
  | some D i s u h hl hd =>
    have hs := h.has s h.mem
    have hn : s.n + (s.rs.length : Int) = (recs.length : Int) := by have := hs.low; omega
    obtain ⟨f, hf, hfn⟩ := h.find
    unfold appG
    simp only [List.getLast?_append, List.getLast?_singleton, Option.some_or]
    by_cases hM2 : M ≤ (encL s.n s.rs).length
    · rw [if_pos hM2]
      rcases sync_cases hd hf with ⟨h1, h2, h3⟩ | ⟨h1, h2, h3⟩
      · rw [if_neg (by rw [h1]; decide)]
        refine Or.inr ⟨by rw [h1]; decide, Left.some recs i s (List.prefix_append _ _) ?_⟩
        show Keeps nm recs (syncD D (nm s.n)).1.files i s u
        rw [h3]; exact h
      · rw [if_pos h1]
        have hk := h.sync hf
        rw [← h3] at hk
        have hne : s.rs ≠ [] := fun e => by
          rw [e] at hM2
          have : (encL s.n []).length = 0 := rfl
          omega
        have hfs : findF (syncD D (nm s.n)).1.files (nm s.n) = some ⟨nm s.n, f.safe ++ f.more, []⟩ := by
          rw [h3]; exact find_set_self h.holds.rise ⟨nm s.n, f.safe ++ f.more, []⟩
        have hnj : ∀ a ∈ i ++ [s], nm a.n ≠ nm (s.n + s.rs.length) := fun a ha e => by
          have h4 := h.has a ha
          have h5 := hinj a.n (s.n + s.rs.length) h4.low (by have := hs.low; omega) e
          have hp := linked_apart h.holds.link
          rw [List.pairwise_append] at hp
          have h7 : 1 ≤ s.rs.length := by cases e2 : s.rs with
            | nil => exact absurd e2 hne
            | cons => simp
          rcases List.mem_append.1 ha with h6 | h6
          · have := hp.2.2 a h6 s (List.mem_singleton.2 rfl)
            omega
          · obtain rfl := List.mem_singleton.1 h6
            omega
        have hno : findF (syncD D (nm s.n)).1.files (nm (s.n + s.rs.length)) = none := by
          rw [find_no]
          intro g hg e
          obtain ⟨a, ha, e2⟩ := hk.holds.only g hg
          exact hnj a ha (by rw [← e2, e])
        have hc := append_cases h2 (nm (s.n + s.rs.length)) (recB (s.n + s.rs.length) r)
        rw [hno] at hc
        simp only [Option.getD_none, List.nil_append] at hc
        have hbad : ∀ e, appendD (syncD D (nm s.n)).1 (nm (s.n + s.rs.length)) (recB (s.n + s.rs.length) r) = ((syncD D (nm s.n)).1, e) → Left nm (recs ++ [r]) (appendD (syncD D (nm s.n)).1 (nm (s.n + s.rs.length)) (recB (s.n + s.rs.length) r)).1 (s.n + s.rs.length) := fun e he => by
          rw [he]
          exact Left.some recs i s (List.prefix_append _ _) hk
        rcases hc with h4 | h4 | ⟨h4, h5⟩
        · rw [if_neg (by rw [h4]; simp)]
          exact Or.inr ⟨by rw [h4]; simp, hbad _ h4⟩
        · rw [if_neg (by rw [h4]; simp)]
          exact Or.inr ⟨by rw [h4]; simp, hbad _ h4⟩
        · have hk2 := hk.new hl hne (fun g hg => by rw [hfs] at hg; cases hg; rfl) r hr hb hnj
          rw [← h5] at hk2
          rcases h4 with ⟨e, hd'⟩ | ⟨e, hd'⟩
          · rw [if_pos e]
            refine Or.inl ⟨by rw [hn], ?_⟩
            refine Good.some _ (i ++ [s]) ⟨s.n + s.rs.length, [r]⟩ _ hk2 ?_ hd'
            show (s.n + (s.rs.length : Int)).toNat + 1 = _
            rw [List.length_append, hn]
            simp
          · rw [if_neg (by rw [e]; decide)]
            exact Or.inr ⟨by rw [e]; decide, Left.some (recs ++ [r]) (i ++ [s]) _ (List.prefix_refl _) hk2⟩
    · rw [if_neg hM2]
      have hc := append_cases hd (nm s.n) (recB (s.n + s.rs.length) r)
      rw [hf] at hc
      simp only [Option.getD_some] at hc
      rcases hc with h4 | h4 | ⟨h4, h5⟩
      · rw [if_neg (by rw [h4]; simp)]
        refine Or.inr ⟨by rw [h4]; simp, Left.some recs i s (List.prefix_append _ _) ?_⟩
        show Keeps nm recs (appendD D _ _).1.files i s u
        rw [h4]; exact h
      · rw [if_neg (by rw [h4]; simp)]
        refine Or.inr ⟨by rw [h4]; simp, Left.some recs i s (List.prefix_append _ _) ?_⟩
        show Keeps nm recs (appendD D _ _).1.files i s u
        rw [h4]; exact h
      · have hk2 := h.append hl r hr hb hf
        rw [hfn] at h5
        rw [← h5] at hk2
        rcases h4 with ⟨e, hd'⟩ | ⟨e, hd'⟩
        · rw [if_pos e]
          refine Or.inl ⟨by rw [hn], ?_⟩
          rw [show (⟨D, i ++ [s], u⟩ : Lg).l.dropLast = i from List.dropLast_concat]
          refine Good.some _ i ⟨s.n, s.rs ++ [r]⟩ u hk2 ?_ hd'
          show s.n.toNat + (s.rs ++ [r]).length = _
          rw [List.length_append, List.length_append]
          simp only [List.length_singleton]
          omega
        · rw [if_neg (by rw [e]; decide)]
          exact Or.inr ⟨by rw [e]; decide, Left.some (recs ++ [r]) i _ (List.prefix_refl _) hk2⟩
theorem sync_good {recs : List (List UInt8)} {L : Lg} (h : Good nm recs L) : ((syncG nm L).2 = 0 ∧ Good nm recs (syncG nm L).1 ∧ (syncG nm L).1.u = (recs.length : Int)) ∨ ((syncG nm L).2 ≠ 0 ∧ Left nm recs (syncG nm L).1.D (syncG nm L).1.u) := by
  cases h with
  | none D h hf hd =>
    subst h
    exact Or.inl ⟨rfl, Good.none D rfl hf hd, rfl⟩
  | some D i s u h hl hd =>
    have hs := h.has s h.mem
    have hn : s.n + (s.rs.length : Int) = (recs.length : Int) := by have := hs.low; omega
    obtain ⟨f, hf, hfn⟩ := h.find
    unfold syncG
    simp only [List.getLast?_append, List.getLast?_singleton, Option.some_or]
    rcases sync_cases hd hf with ⟨h1, h2, h3⟩ | ⟨h1, h2, h3⟩
    · rw [if_neg (by rw [h1]; decide)]
      refine Or.inr ⟨by rw [h1]; decide, Left.some recs i s (List.prefix_refl _) ?_⟩
      show Keeps nm recs (syncD D (nm s.n)).1.files i s u
      rw [h3]; exact h
    · rw [if_pos h1]
      have hk := h.sync hf
      rw [← h3] at hk
      exact Or.inl ⟨rfl, Good.some _ i s _ hk hl h2, hn⟩
end
end Go.Proofs.YtelcemfaijjcbaaGreatDoor.C13

namespace Go.Proofs.YtelcemfaijjcbaaGreatDoor.C13
open Go Go.RowKit Go.Proofs Go.Proofs.YtelcemfaijjcbaaGreatDoor.B Go.Proofs.YtelcemfaijjcbaaGreatDoor.K Go.Proofs.YtelcemfaijjcbaaGreatDoor.C12
set_option linter.unusedVariables false

section
variable (nm : Int → List UInt8)
def trimG (n : Int) : List Seg → Dst → List Seg × Dst × Int
  | s :: t :: l, D => if t.n ≤ n then (if (removeD D (nm s.n)).2 = 0 then trimG n (t :: l) (removeD D (nm s.n)).1 else (s :: t :: l, (removeD D (nm s.n)).1, (removeD D (nm s.n)).2)) else (s :: t :: l, D, 0)
  | l, D => (l, D, 0)
variable {nm}
theorem trim_keeps {recs : List (List UInt8)} {s : Seg} {u n : Int} : ∀ (i : List Seg) (D : Dst), Keeps nm recs D.files i s u → D.down = false →
    ∃ i' D' e, trimG nm n (i ++ [s]) D = (i' ++ [s], D', e) ∧ Keeps nm recs D'.files i' s u ∧ ((e = 0 ∧ D'.down = false) ∨ (e = 11 ∧ D'.down = true)) ∧ firstS (i ++ [s]) ≤ firstS (i' ++ [s]) ∧ (firstS (i' ++ [s]) = firstS (i ++ [s]) ∨ firstS (i' ++ [s]) ≤ n)
  | [], D, h, hd => ⟨[], D, 0, rfl, h, Or.inl ⟨rfl, hd⟩, Int.le_refl _, Or.inl rfl⟩
  | a :: i, D, h, hd => by
    obtain ⟨t, l, ht⟩ : ∃ t l, i ++ [s] = t :: l := by
      cases i with
      | nil => exact ⟨s, [], rfl⟩
      | cons b i => exact ⟨b, i ++ [s], rfl⟩
    have hlt : a.n < t.n := linked_lt (l := i ++ [s]) h.holds.link t (by rw [ht]; exact List.mem_cons_self ..)
    have hg : trimG nm n (a :: i ++ [s]) D = if t.n ≤ n then (if (removeD D (nm a.n)).2 = 0 then trimG nm n (i ++ [s]) (removeD D (nm a.n)).1 else (a :: (i ++ [s]), (removeD D (nm a.n)).1, (removeD D (nm a.n)).2)) else (a :: (i ++ [s]), D, 0) := by
      show trimG nm n (a :: (i ++ [s])) D = _
      rw [ht]
      rfl
    rw [hg]
    by_cases hn : t.n ≤ n
    · rw [if_pos hn]
      obtain ⟨f, hf, _⟩ := h.holds.each a (List.mem_cons_self ..)
      rcases remove_cases hd hf with ⟨h1, h2, h3⟩ | ⟨h1, h2, h3⟩
      · rw [if_neg (by rw [h1]; decide)]
        exact ⟨a :: i, _, _, rfl, by rw [h3]; exact h, Or.inr ⟨h1, h2⟩, Int.le_refl _, Or.inl rfl⟩
      · rw [if_pos h1]
        have hk := h.gone
        rw [← h3] at hk
        obtain ⟨i', D', e, e1, e2, e3, e4, e5⟩ := trim_keeps i _ hk h2
        have hfst : firstS (i ++ [s]) = t.n := by rw [ht]; rfl
        refine ⟨i', D', e, e1, e2, e3, ?_, Or.inr ?_⟩
        · show a.n ≤ _
          omega
        · rcases e5 with e5 | e5 <;> omega
    · rw [if_neg hn]
      exact ⟨a :: i, D, 0, rfl, h, Or.inl ⟨rfl, hd⟩, Int.le_refl _, Or.inl rfl⟩
theorem first_low {recs : List (List UInt8)} {fs : List Fl} {i : List Seg} {s : Seg} {u : Int} (h : Keeps nm recs fs i s u) : 0 ≤ firstS (i ++ [s]) ∧ firstS (i ++ [s]) ≤ s.n := by
  cases i with
  | nil => exact ⟨(h.has s h.mem).low, Int.le_refl _⟩
  | cons a i =>
    have := linked_lt (l := i ++ [s]) h.holds.link s (List.mem_append_right _ (List.mem_singleton.2 rfl))
    exact ⟨(h.has a (List.mem_cons_self ..)).low, Int.le_of_lt this⟩
theorem next_snoc : ∀ (i : List Seg) (s : Seg), nextS (i ++ [s]) = s.n + s.rs.length
  | [], s => rfl
  | [a], s => rfl
  | a :: b :: i, s => next_snoc (b :: i) s
theorem firm_crash {recs : List (List UInt8)} {fs : List Fl} {i : List Seg} {s : Seg} {u : Int} (h : Keeps nm recs fs i s u) {m : Nat} (hm : m ≤ s.rs.length) (hu : u ≤ s.n + m) :
    firstS (i ++ [⟨s.n, s.rs.take m⟩]) ≤ u ∧ u ≤ nextS (i ++ [⟨s.n, s.rs.take m⟩]) ∧ nextS (i ++ [⟨s.n, s.rs.take m⟩]) ≤ recs.length := by
  have hl : (s.rs.take m).length = m := by rw [List.length_take]; omega
  have hf : firstS (i ++ [⟨s.n, s.rs.take m⟩]) = firstS (i ++ [s]) := by cases i <;> rfl
  have h1 := first_low h
  have h2 := h.low
  have h3 := (h.has s h.mem).most
  have h4 := (h.has s h.mem).low
  rw [hf, next_snoc]
  refine ⟨by omega, by show u ≤ s.n + ((s.rs.take m).length : Int); rw [hl]; exact hu, by show s.n + ((s.rs.take m).length : Int) ≤ _; rw [hl]; omega⟩
/-- All that WalKeeps asks of what an Open finds: the records are those of recs from the first one's number on. -/
theorem flat_keeps {recs : List (List UInt8)} {fs : List Fl} {i : List Seg} {s : Seg} {u : Int} (h : Keeps nm recs fs i s u) :
    flatS (i ++ [s]) = (recs.drop (firstS (i ++ [s])).toNat).take (flatS (i ++ [s])).length ∧ firstS (i ++ [s]) + ((flatS (i ++ [s])).length : Int) = nextS (i ++ [s]) ∧ nextS (i ++ [s]) ≤ recs.length := by
  obtain ⟨h1, h2, h3⟩ := flat_has recs (i ++ [s]) (by simp) h.holds.link h.has
  have h4 := first_low h
  have h5 := (h.has s h.mem).low
  have h6 := next_snoc i s
  exact ⟨h3, by omega, by omega⟩
/-- The number that a place of the row has. -/
theorem keeps_same {r recs : List (List UInt8)} (hp : r <+: recs) {a n : Nat} (h : a + n ≤ r.length) : (r.drop a).take n = (recs.drop a).take n := by
  obtain ⟨q, rfl⟩ := hp
  rw [List.drop_append_of_le_length (by omega), List.take_append_of_le_length (by rw [List.length_drop]; omega)]
end
end Go.Proofs.YtelcemfaijjcbaaGreatDoor.C13

namespace Go.Proofs.YtelcemfaijjcbaaGreatDoor.C13
open Go Go.RowKit Go.Proofs Go.Proofs.YtelcemfaijjcbaaGreatDoor.B Go.Proofs.YtelcemfaijjcbaaGreatDoor.K Go.Proofs.YtelcemfaijjcbaaGreatDoor.C12
set_option linter.unusedVariables false

/-- A number's digits. -/
def digL (n : Nat) : List UInt8 := if h : n < 10 then [UInt8.ofNat (48 + n)] else digL (n / 10) ++ [UInt8.ofNat (48 + n % 10)]
termination_by n
decreasing_by omega
theorem dig_one {n : Nat} (h : n < 10) : digL n = [UInt8.ofNat (48 + n)] := by unfold digL; rw [dif_pos h]
theorem dig_ten {n : Nat} (h : ¬ n < 10) : digL n = digL (n / 10) ++ [UInt8.ofNat (48 + n % 10)] := by
  conv => lhs; unfold digL
  rw [dif_neg h]
/-- What digits say. -/
def numL (l : List UInt8) : Nat := l.foldl (fun a c => a * 10 + (c.toNat - 48)) 0
theorem dig_byte (k : Nat) (h : k < 10) : (UInt8.ofNat (48 + k)).toNat = 48 + k := by
  rw [UInt8.toNat_ofNat']
  omega
theorem num_dig (n : Nat) : numL (digL n) = n := by
  induction n using Nat.strongRecOn with
  | _ n ih =>
    by_cases h : n < 10
    · rw [dig_one h]
      unfold numL
      simp only [List.foldl_cons, List.foldl_nil, Nat.zero_mul, Nat.zero_add]
      rw [dig_byte n h]
      omega
    · rw [dig_ten h]
      have e := ih (n / 10) (by omega)
      unfold numL at e ⊢
      rw [List.foldl_append, e]
      simp only [List.foldl_cons, List.foldl_nil]
      rw [dig_byte _ (by omega)]
      omega
theorem dig_all (n : Nat) : ∀ c ∈ digL n, 48 ≤ c.toNat ∧ c.toNat ≤ 57 := by
  induction n using Nat.strongRecOn with
  | _ n ih =>
    intro c hc
    by_cases h : n < 10
    · rw [dig_one h] at hc
      rw [List.mem_singleton.1 hc, dig_byte n h]
      omega
    · rw [dig_ten h] at hc
      rcases List.mem_append.1 hc with h1 | h1
      · exact ih (n / 10) (by omega) c h1
      · rw [List.mem_singleton.1 h1, dig_byte _ (by omega)]
        omega
theorem dig_len : ∀ (k n : Nat), n < 10 ^ (k + 1) → (digL n).length ≤ k + 1
  | 0, n, h => by rw [dig_one (by omega)]; exact Nat.le_refl _
  | k + 1, n, h => by
    by_cases h1 : n < 10
    · rw [dig_one h1]; exact Nat.succ_le_succ (Nat.zero_le _)
    · rw [dig_ten h1, List.length_append]
      have := dig_len k (n / 10) (by rw [Nat.pow_succ] at h; omega)
      simp only [List.length_singleton]
      omega
theorem dig_pos (n : Nat) : 1 ≤ (digL n).length := by
  by_cases h : n < 10
  · rw [dig_one h]; exact Nat.le_refl _
  · rw [dig_ten h, List.length_append]; simp
/-- A segment's name. -/
def segName (name : List UInt8) (n : Int) : List UInt8 := name ++ [46] ++ digL n.toNat
theorem seg_inj (name : List UInt8) (a b : Int) (ha : 0 ≤ a) (hb : 0 ≤ b) (h : segName name a = segName name b) : a = b := by
  have e : digL a.toNat = digL b.toNat := List.append_cancel_left h
  have := congrArg numL e
  rw [num_dig, num_dig] at this
  omega
theorem sorted_eq : ∀ {a b : List Int}, a.Pairwise (· < ·) → b.Pairwise (· < ·) → (∀ x, x ∈ a ↔ x ∈ b) → a = b
  | [], [], _, _, _ => rfl
  | [], y :: b, _, _, h => absurd ((h y).2 (List.mem_cons_self ..)) (by simp)
  | x :: a, [], _, _, h => absurd ((h x).1 (List.mem_cons_self ..)) (by simp)
  | x :: a, y :: b, ha, hb, h => by
    obtain ⟨a1, a2⟩ := List.pairwise_cons.1 ha
    obtain ⟨b1, b2⟩ := List.pairwise_cons.1 hb
    have e : x = y := by
      rcases List.mem_cons.1 ((h x).1 (List.mem_cons_self ..)) with h1 | h1
      · exact h1
      · rcases List.mem_cons.1 ((h y).2 (List.mem_cons_self ..)) with h2 | h2
        · exact h2.symm
        · have := b1 x h1
          have := a1 y h2
          omega
    subst e
    rw [sorted_eq a2 b2 fun z => ?_]
    constructor
    · intro hz
      rcases List.mem_cons.1 ((h z).1 (List.mem_cons_of_mem _ hz)) with h1 | h1
      · subst h1
        have := a1 z hz; omega
      · exact h1
    · intro hz
      rcases List.mem_cons.1 ((h z).2 (List.mem_cons_of_mem _ hz)) with h1 | h1
      · subst h1
        have := b1 z hz; omega
      · exact h1
/-- Whatever row of numbers rises and has just those of the files' names, it is the segments'. -/
theorem holds_nums {nm : Int → List UInt8} {fs : List Fl} {i : List Seg} {s : Seg} (h : But nm fs i s) (hs : ∃ f ∈ fs, f.name = nm s.n) {l : List Int} (hl : l.Pairwise (· < ·)) (hm : ∀ x, x ∈ l ↔ ∃ f ∈ fs, f.name = nm x) (hinj : ∀ x ∈ l, ∀ a ∈ i ++ [s], nm x = nm a.n → x = a.n) : l = (i ++ [s]).map Seg.n := by
  have hp : ((i ++ [s]).map Seg.n).Pairwise (· < ·) := List.pairwise_map.2 (linked_apart h.link)
  refine sorted_eq hl hp fun x => ?_
  rw [hm x]
  constructor
  · rintro ⟨f, hf, e⟩
    obtain ⟨a, ha, e2⟩ := h.only f hf
    have hx : x ∈ l := (hm x).2 ⟨f, hf, e⟩
    exact List.mem_map.2 ⟨a, ha, (hinj x hx a ha (by rw [← e, e2])).symm⟩
  · intro hx
    obtain ⟨a, ha, rfl⟩ := List.mem_map.1 hx
    rcases List.mem_append.1 ha with h1 | h1
    · obtain ⟨h2, h3⟩ := find_facts (h.each a h1)
      exact ⟨_, h2, rfl⟩
    · obtain rfl := List.mem_singleton.1 h1
      exact hs
end Go.Proofs.YtelcemfaijjcbaaGreatDoor.C13

namespace Go.Proofs.YtelcemfaijjcbaaGreatDoor.C13
open Go Go.RowKit Go.Proofs Go.Proofs.YtelcemfaijjcbaaGreatDoor.B Go.Proofs.YtelcemfaijjcbaaGreatDoor.K Go.Proofs.YtelcemfaijjcbaaGreatDoor.C12
set_option linter.unusedVariables false

theorem dec_dig (n : Nat) : Lib.decDigits n = digL n := by
  induction n using Nat.strongRecOn with
  | _ n ih =>
    unfold Lib.decDigits
    by_cases h : n < 10
    · rw [dif_pos h, dig_one h]
    · rw [dif_neg h, dig_ten h, ih (n / 10) (by omega)]
theorem itoa_dig {n : Int} (h : 0 ≤ n) : Lib.itoa n = digL n.toNat := by
  unfold Lib.itoa
  rw [if_neg (by omega), dec_dig]
theorem dec_app : ∀ (l : List UInt8) (acc n : Nat) (d : UInt8) (x : Nat), Lib.decFrom acc l = some n → Lib.digitVal d = some x → Lib.decFrom acc (l ++ [d]) = some (n * 10 + x)
  | [], acc, n, d, x, h, hx => by simp only [Lib.decFrom, Option.some.injEq] at h; subst h; simp [Lib.decFrom, hx]
  | c :: r, acc, n, d, x, h, hx => by
    simp only [List.cons_append, Lib.decFrom] at h ⊢
    split at h
    · rename_i y hy; exact dec_app r _ _ _ _ h hx
    · cases h
theorem digit_val (x : Nat) (hx : x < 10) : Lib.digitVal (UInt8.ofNat (48 + x)) = some x := by
  unfold Lib.digitVal
  rw [UInt8.toNat_ofNat', Nat.mod_eq_of_lt (by omega), if_pos (by omega)]
  congr 1; omega
theorem dec_from (v : Nat) : Lib.decFrom 0 (digL v) = some v := by
  induction v using Nat.strongRecOn with
  | _ v ih =>
    by_cases h : v < 10
    · rw [dig_one h]
      have := dec_app [] 0 0 _ v rfl (digit_val v h)
      simpa using this
    · rw [dig_ten h]
      have := dec_app (digL (v / 10)) 0 (v / 10) _ (v % 10) (ih (v / 10) (by omega)) (digit_val _ (by omega))
      rw [this]
      congr 1; omega
theorem atoi_dig (v : Nat) : Lib.atoi (digL v) = some (v : Int) := by
  have hl := dig_pos v
  have ha := dig_all v
  have hd := dec_from v
  obtain ⟨l, hL⟩ : ∃ l, digL v = l := ⟨_, rfl⟩
  rw [hL] at hl ha hd ⊢
  cases l with
  | nil => simp at hl
  | cons c r =>
    obtain ⟨h1, h2⟩ := ha c (List.mem_cons_self ..)
    have e1 : (c == 45) = false := by rw [beq_eq_false_iff_ne]; rintro rfl; revert h1; decide
    have e2 : (c == 43) = false := by rw [beq_eq_false_iff_ne]; rintro rfl; revert h1; decide
    unfold Lib.atoi
    simp only [e1, e2]
    unfold Lib.decNat
    rw [if_neg (by simp), if_neg (by simp), if_neg (by simp), hd]
    rfl
/-- The laws' log. -/
def nmW (n : Int) : List UInt8 := segName [108, 111, 103] n
theorem nmW_inj (a b : Int) (ha : 0 ≤ a) (hb : 0 ≤ b) (h : nmW a = nmW b) : a = b := seg_inj _ a b ha hb h
theorem nmW_str {n : Int} (h : 0 ≤ n) : str [108, 111, 103] ++ ⟨#[46]⟩ ++ (⟨(Lib.itoa n).toArray⟩ : ByteArray) = str (nmW n) := by
  rw [show (⟨#[46]⟩ : ByteArray) = str [46] from rfl, str_append, show (⟨(Lib.itoa n).toArray⟩ : ByteArray) = str (Lib.itoa n) from rfl, str_append, itoa_dig h]
  rfl
theorem dig_short {n : Int} (h : n ≤ 1099511627776) : (digL n.toNat).length ≤ 13 := dig_len 12 n.toNat (by omega)
theorem nmW_len {n : Int} (h : n ≤ 1099511627776) : (nmW n).length ≤ 17 := by
  have := dig_short h
  unfold nmW segName
  simp only [List.length_append, List.length_cons, List.length_nil]
  omega
end Go.Proofs.YtelcemfaijjcbaaGreatDoor.C13
