/-
  What strings.Cut answers at this program for a text of one byte: what stands ahead of the first such byte and behind it, or that there is none; nothing turns but draws.
-/
import Derived.Test.YtngiomifofdebaaParsM
import Derived.Test.YtngiomifofdebaaShelfCut
import Derived.Test.YtngiomifofdebaaLater
import Derived.Laws.Strings3
namespace Go.Proofs.Ytngiomifofdebaa
open Go.RowKit
set_option linter.unusedVariables false

theorem cut_ext {s : ByteArray} {c : UInt8} {p q : List UInt8} (h : Pl.bs s = p ++ c :: q) : Pl.bs (s.extract 0 p.length) = p ∧ Pl.bs (s.extract (p.length + 1) s.size) = q ∧ p.length < s.size := by
  have hl := congrArg List.length h
  rw [Pl.bs_length] at hl
  simp at hl
  refine ⟨?_, ?_, by omega⟩
  · rw [Pl.bs_extract, h]
    simp
  · rw [Pl.bs_extract, h, List.take_of_length_le (by simp; omega)]
    simp

set_option maxRecDepth 100000 in
set_option maxHeartbeats 1000000 in
theorem cutl_any (s : ByteArray) (c : UInt8) (w : World) (hs : s.size ≤ 1048576) :
    Calls Try.prog 92 #[.string s, .string ⟨#[c]⟩] w fun e w' => (∃ m, w' = w.drewN m) ∧ ((c ∉ Pl.bs s ∧ e = .returned (.tuple #[.string s, .string ⟨#[]⟩, .bool false])) ∨ ∃ p q : ByteArray, Pl.bs s = Pl.bs p ++ c :: Pl.bs q ∧ c ∉ Pl.bs p ∧ e = .returned (.tuple #[.string p, .string q, .bool true])) := by
  have HI := (hide <| fun W => Try.stringslite_Index_one s c W)
  have hcs := Pl.ix_cases c s.data.toList
  obtain ⟨i, ei⟩ : ∃ i, Lib.indexByte s.data.toList c = i := ⟨_, rfl⟩
  rw [ei] at HI hcs
  clear ei
  rcases hcs with ⟨rfl, hn⟩ | ⟨p, q, hl, hn, rfl⟩
  · have HN : Hid (c ∉ Pl.bs s) := hn
    clear hn
    go_enter Try.func92, Try.ntmps92
    go_wp2_with fail
    refine (HI.out _).mono ?_
    rintro e w' ⟨rfl, hw⟩
    obtain rfl := hw.symm
    clear hw HI
    go_wp2
    refine bodyPost_ret (v := .tuple #[.string s, .string ⟨#[]⟩, .bool false]) (by simp [results, Try.results92, go_sem]) rfl ⟨⟨0, rfl⟩, .inl ⟨HN.out, rfl⟩⟩
  · have HL : Hid (Pl.bs s = p ++ c :: q) := hl
    have HN := (hide <| hn)
    have hlt := (cut_ext HL.out).2.2
    clear hl hn
    go_enter Try.func92, Try.ntmps92
    go_wp2_with fail
    refine (HI.out _).mono ?_
    rintro e w' ⟨rfl, hw⟩
    obtain rfl := hw.symm
    clear hw HI
    go_wp2
    go_quiet (fail)
    go_wp2
    refine bodyPost_ret (v := .tuple #[.string (s.extract 0 p.length), .string (s.extract (p.length + 1) s.size), .bool true]) (by simp [results, Try.results92, go_sem]) rfl ⟨⟨nq, rfl⟩, .inr ⟨_, _, ?_, ?_, rfl⟩⟩
    · rw [(cut_ext HL.out).1, (cut_ext HL.out).2.1]
      exact HL.out
    · rw [(cut_ext HL.out).1]
      exact HN.out

set_option maxRecDepth 100000 in
set_option maxHeartbeats 1000000 in
theorem cut_any (s : ByteArray) (c : UInt8) (w : World) (hs : s.size ≤ 1048576) :
    Calls Try.prog 75 #[.string s, .string ⟨#[c]⟩] w fun e w' => (∃ m, w' = w.drewN m) ∧ ((c ∉ Pl.bs s ∧ e = .returned (.tuple #[.string s, .string ⟨#[]⟩, .bool false])) ∨ ∃ p q : ByteArray, Pl.bs s = Pl.bs p ++ c :: Pl.bs q ∧ c ∉ Pl.bs p ∧ e = .returned (.tuple #[.string p, .string q, .bool true])) := by
  have HC := (hide <| fun W => cutl_any s c W hs)
  go_enter Try.func75, Try.ntmps75
  go_wp2_with fail
  refine (HC.out _).mono ?_
  rintro e w1 ⟨⟨m, rfl⟩, he⟩
  clear HC
  rcases he with ⟨hn, rfl⟩ | ⟨p, q, h1, h2, rfl⟩
  · have HN := (hide <| hn)
    clear hn
    go_wp2
    refine bodyPost_ret (v := .tuple #[.string s, .string ⟨#[]⟩, .bool false]) (by simp [results, Try.results75, go_sem]) rfl ⟨⟨m, rfl⟩, .inl ⟨HN.out, rfl⟩⟩
  · have H1 := (hide <| h1)
    have H2 := (hide <| h2)
    clear h1 h2
    go_wp2
    refine bodyPost_ret (v := .tuple #[.string p, .string q, .bool true]) (by simp [results, Try.results75, go_sem]) rfl ⟨⟨m, rfl⟩, .inr ⟨p, q, H1.out, H2.out, rfl⟩⟩
end Go.Proofs.Ytngiomifofdebaa
