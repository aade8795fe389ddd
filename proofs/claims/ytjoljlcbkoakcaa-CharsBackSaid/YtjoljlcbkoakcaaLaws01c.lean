/-
  Each law of layer 1 returns true for every input of its types, and turns nothing that was there: the statements CharsBack.
-/
import Derived.Test.YtjoljlcbkoakcaaLaw
import Derived.Test.YtjoljlcbkoakcaaLives01
import Derived.Test.YtjoljlcbkoakcaaRefRef
import Derived.Test.YtjoljlcbkoakcaaLower
namespace Go.Proofs.Ytjoljlcbkoakcaa
set_option linter.unusedVariables false
set_option linter.unusedSimpArgs false
open Go.ChangeShapes Go.WideShapes Go.ChangeAt Go.RowKit
open Go.ChangeMaps (open_string shut_string)

/-- a number of decimal digits, with a semicolon behind it, is the letter -/
theorem refS_dec (ds r : List UInt8) (hd : ∀ c ∈ ds, (dval 10 c).isSome = true) (h1 : 1 ≤ ds.length) (h8 : ds.length ≤ 8) (h120 : ds.head? ≠ some 120) (ho : letOk (dnum 10 ds) = true) :
    refS ([38, 35] ++ ds ++ 59 :: r) = (letB (dnum 10 ds), ds.length + 3, 0) := by
  have hx : [38, 35, 120].isPrefixOf ([38, 35] ++ ds ++ 59 :: r) = false := by
    cases ds with
    | nil => simp at h1
    | cons c ds => simp at h120; simp [List.isPrefixOf]; exact fun h => h120 h.symm
  have h2 : [38, 35].isPrefixOf ([38, 35] ++ ds ++ 59 :: r) = true := by simp [List.isPrefixOf]
  unfold refS
  rw [if_neg (by rw [hx]; decide), if_pos h2]
  have hk : ([38, 35] ++ ds ++ 59 :: r)[2 + ds.length]? = some 59 := by
    rw [List.getElem?_append_right (by simp; omega)]
    have : 2 + ds.length - ([38, 35] ++ ds : List UInt8).length = 0 := by simp; omega
    rw [this]; rfl
  have hall : AllDig 10 ([38, 35] ++ ds ++ 59 :: r) 2 (2 + ds.length) := by
    intro i c a1 a2 a3
    rw [List.getElem?_append_left (by simp; omega), List.getElem?_append_right (by simp; omega)] at a3
    exact hd c (List.mem_of_getElem? a3)
  have htk : (([38, 35] ++ ds ++ 59 :: r).drop 2).take (2 + ds.length - 2) = ds := by simp
  rw [num_fin (k := 2 + ds.length) (by omega) (by omega) hall (by simp; omega) (.inr (.inr ⟨59, hk, dval_59⟩)), fin_some (by omega) hk (by rw [htk]; exact ho), htk]
  simp; omega

/-- what stands for a byte is read as that byte -/
theorem refS_esc (b : Bool) (c : UInt8) (r : List UInt8) (h : escOk b c = true) : refS (esc1 b c ++ r) = (⟨#[c]⟩, (esc1 b c).length, 0) := by
  simp [escOk] at h
  have w0 (x : List UInt8) (t : UInt8) (hp : refS (x ++ r) = (⟨#[t]⟩, x.length, 0)) (he : esc1 b c = x) (hc : c = t) : refS (esc1 b c ++ r) = (⟨#[c]⟩, (esc1 b c).length, 0) := by
    rw [he, hc]; exact hp
  have p (x y : List UInt8) : Lib.hasPrefix (x ++ y) x = true := List.isPrefixOf_iff_prefix.2 (List.prefix_append _ _)
  rcases h with (((h | h) | h) | h) | ⟨rfl, (h | h) | h⟩
  · exact w0 _ 38 (refS_word2 (p _ _)) (by subst h; cases b <;> rfl) h
  · exact w0 _ 60 (refS_word0 (p _ _)) (by subst h; cases b <;> rfl) h
  · exact w0 _ 62 (refS_word1 (p _ _)) (by subst h; cases b <;> rfl) h
  · refine w0 [38, 35, 49, 51, 59] 13 ?_ (by subst h; cases b <;> rfl) h
    exact refS_dec [49, 51] r (by decide) (by decide) (by decide) (by decide) (by decide)
  · exact w0 _ 34 (refS_word3 (p _ _)) (by subst h; rfl) h
  · refine w0 [38, 35, 57, 59] 9 ?_ (by subst h; rfl) h
    exact refS_dec [57] r (by decide) (by decide) (by decide) (by decide) (by decide)
  · refine w0 [38, 35, 49, 48, 59] 10 ?_ (by subst h; rfl) h
    exact refS_dec [49, 48] r (by decide) (by decide) (by decide) (by decide) (by decide)

theorem esc1_pos (b : Bool) (c : UInt8) : 1 ≤ (esc1 b c).length := by
  unfold esc1
  repeat' split
  all_goals simp
theorem esc1_head (b : Bool) (c : UInt8) (h : escOk b c = true) : (esc1 b c)[0]? = some 38 := by
  simp [escOk] at h
  rcases h with (((h | h) | h) | h) | ⟨rfl, (h | h) | h⟩ <;> subst h <;> (try cases b) <;> rfl

set_option maxHeartbeats 4000000 in
set_option maxRecDepth 100000 in
theorem walk_CharsBack_true (s : ByteArray) (hs : s.size ≤ 9223372036854775807) (w : World) :
    Calls Try.prog 10 #[.string s, .bool true] w fun e w' => e = .returned (.bool true) ∧ Below w.heap.size w w' := by
  go_enter Try.func10, Try.ntmps10
  go_wp2_with fail
  refine (cut01_any s hs _).mono ?_
  rintro e w' ⟨t, rfl, ht, rfl⟩
  have c1 := fun w => Escape_any true t (by omega) w
  have hul : (str (escS true t.data.toList)).data.toList = escS true t.data.toList := rfl
  have hus : (str (escS true t.data.toList)).size ≤ 6 * t.size := by
    rw [size_str]
    have := escS_len true t.data.toList
    simpa using this
  obtain ⟨u, hu⟩ : ∃ u, u = str (escS true t.data.toList) := ⟨_, rfl⟩
  rw [← hu] at c1 hul hus
  clear hu
  have HU := Lib.hid hul; clear hul
  have C1 := Lib.hid c1; clear c1
  have hut : t.data.toList.length = t.size := by simp
  have HT := Lib.hid hut; clear hut
  go_wp2_with fail
  refine (C1.out _).mono ?_
  rintro e w1 ⟨rfl, hb1⟩
  go_wp2
  go_loop [6, 7] (fun o i => ∃ j : Nat, j ≤ t.size ∧ i = .int .i64 ((escS true (t.data.toList.take j)).length : Nat) ∧ o = .string (str (t.data.toList.take j))) (fun _ i => u.size - (intOf i).toNat)
  case atStart => exact ⟨0, Nat.zero_le _, rfl, rfl⟩
  case round =>
    obtain ⟨j, hj, hi, rfl⟩ := hrel
    have hsplit : u.data.toList = escS true (t.data.toList.take j) ++ escS true (t.data.toList.drop j) := by
      rw [HU.out]
      unfold escS
      rw [← List.flatMap_append, List.take_append_drop]
    obtain ⟨k, hk⟩ : ∃ k, k = (escS true (t.data.toList.take j)).length := ⟨_, rfl⟩
    rw [← hk] at hi
    subst hi
    have hul : u.data.toList.length = u.size := by simp
    by_cases hlt : j < t.size
    · obtain ⟨c, hc⟩ : ∃ c, t.data.toList[j]? = some c := ⟨_, List.getElem?_eq_getElem (by simpa using hlt)⟩
      have hdrop : t.data.toList.drop j = c :: t.data.toList.drop (j + 1) := by
        have h1 := (List.getElem?_eq_some_iff.1 hc)
        rw [List.drop_eq_getElem_cons h1.1, h1.2]
      have hsplit2 : u.data.toList = escS true (t.data.toList.take j) ++ (esc1 true c ++ escS true (t.data.toList.drop (j + 1))) := by
        rw [hsplit, hdrop]; rfl
      have htk : t.data.toList.take (j + 1) = t.data.toList.take j ++ [c] := take_snoc _ _ _ hc
      have hlen1 : (escS true (t.data.toList.take (j + 1))).length = k + (esc1 true c).length := by
        rw [htk, escS_snoc, List.length_append, ← hk]
      have hulen : u.size = k + ((esc1 true c).length + (escS true (t.data.toList.drop (j + 1))).length) := by
        rw [← hul, hsplit2, List.length_append, List.length_append, ← hk]
      have hpos := esc1_pos true c
      have hku : k < u.size := by omega
      have hacc : (str (t.data.toList.take j)).size ≤ 3000 := by rw [size_str]; simp; omega
      have h0 : u.data.toList[k]? = (esc1 true c)[0]? := by
        rw [hsplit2, List.getElem?_append_right (by omega), ← hk, Nat.sub_self, List.getElem?_append_left (by omega)]
      have HH : Hid (str (t.data.toList.take j) ++ str [c] = str (t.data.toList.take (j + 1))) := Lib.hid (by rw [htk, app_str])
      have HL1 := Lib.hid hlen1; clear hlen1
      obtain ⟨acc, hacce⟩ : ∃ acc, acc = str (t.data.toList.take j) := ⟨_, rfl⟩
      rw [← hacce] at hacc
      rw [← hacce]
      have HA := Lib.hid hacce; clear hacce
      have hcsz : (⟨#[c]⟩ : ByteArray).size = 1 := rfl
      by_cases hok : escOk true c = true
      · rw [esc1_head true c hok] at h0
        have hix := hidx u k 38 h0
        have href := refS_esc true c (escS true (t.data.toList.drop (j + 1))) hok
        have hsl : ∀ w, (Instr.slice 9 (.string u) (some (.int .i64 (k : Int))) none none).run Try.prog w = .ok (.string (u.extract k u.size)) w := fun w => by
          rw [run_slice_string_l (w := w) (t := 9) (s := u) Try.underlying9 .i64 k (by omega) (by omega)]; rfl
        have hext : (u.extract k u.size).data.toList = esc1 true c ++ escS true (t.data.toList.drop (j + 1)) := by
          rw [Lib.extract_to_end, hsplit2, List.drop_append_of_le_length (by omega), List.drop_of_length_le (by omega), List.nil_append]
        have hes : (u.extract k u.size).size ≤ 1000000 := by
          have := congrArg List.length hext
          simp at this
          have h3 : (u.extract k u.size).size = (u.extract k u.size).data.toList.length := by simp
          rw [h3, hext, List.length_append]
          omega
        have c2 := fun w => Ref_any (u.extract k u.size) hes w
        rw [hext, href] at c2
        have C2 := Lib.hid c2; clear c2 href hext hes
        obtain ⟨n, hn⟩ : ∃ n, n = (esc1 true c).length := ⟨_, rfl⟩
        rw [← hn] at C2 hpos hulen
        have HN := Lib.hid hn; clear hn
        have hn1 : (1 : Int) ≤ n := by omega
        have hn2 : (n : Int) ≤ 6 := by have := esc1_len true c; have := HN.out; omega
        have HUL := Lib.hid hulen; clear hulen hsplit hsplit2 h0 hdrop htk hul hc
        have HK := Lib.hid hk; clear hk
        have hk2 : (k : Int) ≤ 20000 := by omega
        go_wp2_with (go_at_call 23; refine (C2.out _).mono ?_; unfold refV; rintro e w' ⟨rfl, rfl⟩)
        refine ⟨⟨j + 1, by omega, ?_, ?_⟩, by simp [intOf]; omega⟩
        · rw [HL1.out, ← HN.out]; go_num
        · exact congrArg Value.string (by rw [HA.out]; exact HH.out)
      · have hok : escOk true c = false := by simpa using hok
        have he1 := esc1_no hok
        rw [he1] at h0 hulen hpos
        have HL1' : Hid ((escS true (t.data.toList.take (j + 1))).length = k + 1) := Lib.hid (by rw [HL1.out, he1]; rfl)
        simp [escOk] at hok
        have hix := hidx u k c h0
        have hsl : ∀ w, (Instr.slice 9 (.string u) (some (.int .i64 k)) (some (.int .i64 ((k:Int)+1))) none).run Try.prog w = .ok (.string (str [c])) w := fun w => by
          rw [run_slice_string w 9 u _ _ _ _ Try.underlying9 (by omega) (by omega) (by omega), ← ext_one u k c h0]; rfl
        have e60 : ((c.toNat : Int) == 60) = false := u8_ne (d := 60) (by simp [hok])
        have e62 : ((c.toNat : Int) == 62) = false := u8_ne (d := 62) (by simp [hok])
        have e38' : ((c.toNat : Int) == 38) = false := u8_ne (d := 38) (by simp [hok])
        have e38 : ((c.toNat : Int) != 38) = true := by simp only [bne, e38', Bool.not_false]
        have e34 : ((c.toNat : Int) == 34) = false := u8_ne (d := 34) (by simp [hok])
        have hcs : (str [c]).size ≤ 1 := by rw [size_str]; simp
        have HK := Lib.hid hk; clear hk
        have hk2 : (k : Int) ≤ 20000 := by omega
        have hk3 : (k : Int) + 1 ≤ u.size := by omega
        have hk4 : k + 1 ≤ u.size := by omega
        clear hok he1 hulen hpos hsplit hsplit2 h0 hdrop htk hul hc hcsz
        go_wp2
        refine ⟨⟨j + 1, by omega, ?_, ?_⟩, by simp [intOf]; omega⟩
        · rw [HL1'.out]; go_num
        · exact congrArg Value.string (by rw [HA.out]; exact HH.out)
    · have hacc : str (t.data.toList.take j) = t := by rw [List.take_of_length_le (by rw [HT.out]; omega), str_toList]
      have hku : k = u.size := by
        rw [hk, List.take_of_length_le (by rw [HT.out]; omega), ← HU.out, hul]
      rw [hacc]
      have HKU := Lib.hid hku; clear hku hul hsplit hk hacc
      have hge : ¬ k < u.size := by have := HKU.out; omega
      go_wp2_with fail
      refine (lives01 _).mono ?_
      rintro e w2 ⟨rfl, hb2⟩
      go_wp2
      go_ret
      exact ⟨rfl, hb1.trans (hb2.mono hb1.size)⟩

set_option maxHeartbeats 4000000 in
set_option maxRecDepth 100000 in
theorem walk_CharsBack_false (s : ByteArray) (hs : s.size ≤ 9223372036854775807) (w : World) :
    Calls Try.prog 10 #[.string s, .bool false] w fun e w' => e = .returned (.bool true) ∧ Below w.heap.size w w' := by
  go_enter Try.func10, Try.ntmps10
  go_wp2_with fail
  refine (cut01_any s hs _).mono ?_
  rintro e w' ⟨t, rfl, ht, rfl⟩
  have c1 := fun w => Escape_any false t (by omega) w
  have hul : (str (escS false t.data.toList)).data.toList = escS false t.data.toList := rfl
  have hus : (str (escS false t.data.toList)).size ≤ 6 * t.size := by
    rw [size_str]
    have := escS_len false t.data.toList
    simpa using this
  obtain ⟨u, hu⟩ : ∃ u, u = str (escS false t.data.toList) := ⟨_, rfl⟩
  rw [← hu] at c1 hul hus
  clear hu
  have HU := Lib.hid hul; clear hul
  have C1 := Lib.hid c1; clear c1
  have hut : t.data.toList.length = t.size := by simp
  have HT := Lib.hid hut; clear hut
  go_wp2_with fail
  refine (C1.out _).mono ?_
  rintro e w1 ⟨rfl, hb1⟩
  go_wp2
  go_loop [6, 7] (fun o i => ∃ j : Nat, j ≤ t.size ∧ i = .int .i64 ((escS false (t.data.toList.take j)).length : Nat) ∧ o = .string (str (t.data.toList.take j))) (fun _ i => u.size - (intOf i).toNat)
  case atStart => exact ⟨0, Nat.zero_le _, rfl, rfl⟩
  case round =>
    obtain ⟨j, hj, hi, rfl⟩ := hrel
    have hsplit : u.data.toList = escS false (t.data.toList.take j) ++ escS false (t.data.toList.drop j) := by
      rw [HU.out]
      unfold escS
      rw [← List.flatMap_append, List.take_append_drop]
    obtain ⟨k, hk⟩ : ∃ k, k = (escS false (t.data.toList.take j)).length := ⟨_, rfl⟩
    rw [← hk] at hi
    subst hi
    have hul : u.data.toList.length = u.size := by simp
    by_cases hlt : j < t.size
    · obtain ⟨c, hc⟩ : ∃ c, t.data.toList[j]? = some c := ⟨_, List.getElem?_eq_getElem (by simpa using hlt)⟩
      have hdrop : t.data.toList.drop j = c :: t.data.toList.drop (j + 1) := by
        have h1 := (List.getElem?_eq_some_iff.1 hc)
        rw [List.drop_eq_getElem_cons h1.1, h1.2]
      have hsplit2 : u.data.toList = escS false (t.data.toList.take j) ++ (esc1 false c ++ escS false (t.data.toList.drop (j + 1))) := by
        rw [hsplit, hdrop]; rfl
      have htk : t.data.toList.take (j + 1) = t.data.toList.take j ++ [c] := take_snoc _ _ _ hc
      have hlen1 : (escS false (t.data.toList.take (j + 1))).length = k + (esc1 false c).length := by
        rw [htk, escS_snoc, List.length_append, ← hk]
      have hulen : u.size = k + ((esc1 false c).length + (escS false (t.data.toList.drop (j + 1))).length) := by
        rw [← hul, hsplit2, List.length_append, List.length_append, ← hk]
      have hpos := esc1_pos false c
      have hku : k < u.size := by omega
      have hacc : (str (t.data.toList.take j)).size ≤ 3000 := by rw [size_str]; simp; omega
      have h0 : u.data.toList[k]? = (esc1 false c)[0]? := by
        rw [hsplit2, List.getElem?_append_right (by omega), ← hk, Nat.sub_self, List.getElem?_append_left (by omega)]
      have HH : Hid (str (t.data.toList.take j) ++ str [c] = str (t.data.toList.take (j + 1))) := Lib.hid (by rw [htk, app_str])
      have HL1 := Lib.hid hlen1; clear hlen1
      obtain ⟨acc, hacce⟩ : ∃ acc, acc = str (t.data.toList.take j) := ⟨_, rfl⟩
      rw [← hacce] at hacc
      rw [← hacce]
      have HA := Lib.hid hacce; clear hacce
      have hcsz : (⟨#[c]⟩ : ByteArray).size = 1 := rfl
      by_cases hok : escOk false c = true
      · rw [esc1_head false c hok] at h0
        have hix := hidx u k 38 h0
        have href := refS_esc false c (escS false (t.data.toList.drop (j + 1))) hok
        have hsl : ∀ w, (Instr.slice 9 (.string u) (some (.int .i64 (k : Int))) none none).run Try.prog w = .ok (.string (u.extract k u.size)) w := fun w => by
          rw [run_slice_string_l (w := w) (t := 9) (s := u) Try.underlying9 .i64 k (by omega) (by omega)]; rfl
        have hext : (u.extract k u.size).data.toList = esc1 false c ++ escS false (t.data.toList.drop (j + 1)) := by
          rw [Lib.extract_to_end, hsplit2, List.drop_append_of_le_length (by omega), List.drop_of_length_le (by omega), List.nil_append]
        have hes : (u.extract k u.size).size ≤ 1000000 := by
          have := congrArg List.length hext
          simp at this
          have h3 : (u.extract k u.size).size = (u.extract k u.size).data.toList.length := by simp
          rw [h3, hext, List.length_append]
          omega
        have c2 := fun w => Ref_any (u.extract k u.size) hes w
        rw [hext, href] at c2
        have C2 := Lib.hid c2; clear c2 href hext hes
        obtain ⟨n, hn⟩ : ∃ n, n = (esc1 false c).length := ⟨_, rfl⟩
        rw [← hn] at C2 hpos hulen
        have HN := Lib.hid hn; clear hn
        have hn1 : (1 : Int) ≤ n := by omega
        have hn2 : (n : Int) ≤ 6 := by have := esc1_len false c; have := HN.out; omega
        have HUL := Lib.hid hulen; clear hulen hsplit hsplit2 h0 hdrop htk hul hc
        have HK := Lib.hid hk; clear hk
        have hk2 : (k : Int) ≤ 20000 := by omega
        go_wp2_with (go_at_call 23; refine (C2.out _).mono ?_; unfold refV; rintro e w' ⟨rfl, rfl⟩)
        refine ⟨⟨j + 1, by omega, ?_, ?_⟩, by simp [intOf]; omega⟩
        · rw [HL1.out, ← HN.out]; go_num
        · exact congrArg Value.string (by rw [HA.out]; exact HH.out)
      · have hok : escOk false c = false := by simpa using hok
        have he1 := esc1_no hok
        rw [he1] at h0 hulen hpos
        have HL1' : Hid ((escS false (t.data.toList.take (j + 1))).length = k + 1) := Lib.hid (by rw [HL1.out, he1]; rfl)
        simp [escOk] at hok
        have hix := hidx u k c h0
        have hsl : ∀ w, (Instr.slice 9 (.string u) (some (.int .i64 k)) (some (.int .i64 ((k:Int)+1))) none).run Try.prog w = .ok (.string (str [c])) w := fun w => by
          rw [run_slice_string w 9 u _ _ _ _ Try.underlying9 (by omega) (by omega) (by omega), ← ext_one u k c h0]; rfl
        have e60 : ((c.toNat : Int) == 60) = false := u8_ne (d := 60) (by simp [hok])
        have e62 : ((c.toNat : Int) == 62) = false := u8_ne (d := 62) (by simp [hok])
        have e38' : ((c.toNat : Int) == 38) = false := u8_ne (d := 38) (by simp [hok])
        have e38 : ((c.toNat : Int) != 38) = true := by simp only [bne, e38', Bool.not_false]
        have hcs : (str [c]).size ≤ 1 := by rw [size_str]; simp
        have HK := Lib.hid hk; clear hk
        have hk2 : (k : Int) ≤ 20000 := by omega
        have hk3 : (k : Int) + 1 ≤ u.size := by omega
        have hk4 : k + 1 ≤ u.size := by omega
        clear hok he1 hulen hpos hsplit hsplit2 h0 hdrop htk hul hc hcsz
        go_wp2
        refine ⟨⟨j + 1, by omega, ?_, ?_⟩, by simp [intOf]; omega⟩
        · rw [HL1'.out]; go_num
        · exact congrArg Value.string (by rw [HA.out]; exact HH.out)
    · have hacc : str (t.data.toList.take j) = t := by rw [List.take_of_length_le (by rw [HT.out]; omega), str_toList]
      have hku : k = u.size := by
        rw [hk, List.take_of_length_le (by rw [HT.out]; omega), ← HU.out, hul]
      rw [hacc]
      have HKU := Lib.hid hku; clear hku hul hsplit hk hacc
      have hge : ¬ k < u.size := by have := HKU.out; omega
      go_wp2_with fail
      refine (lives01 _).mono ?_
      rintro e w2 ⟨rfl, hb2⟩
      go_wp2
      go_ret
      exact ⟨rfl, hb1.trans (hb2.mono hb1.size)⟩

theorem walk_CharsBack (s : ByteArray) (hs : s.size ≤ 9223372036854775807) (b : Bool) (w : World) :
    Calls Try.prog 10 #[.string s, .bool b] w fun e w' => e = .returned (.bool true) ∧ Below w.heap.size w w' := by
  cases b
  · exact walk_CharsBack_false s hs w
  · exact walk_CharsBack_true s hs w

set_option maxRecDepth 100000 in
theorem lifted_CharsBack (os : Os) (started : os.Started) (H : Type) (enc : TypeId × Value → H) :
    ReturnsInHanded {} Try.checked os 10 .any (Rows.charsBackSpec.pre6 enc Try.prog Try.f10 Rows.charsBackRow.domain false) (Rows.charsBackSpec.post enc Try.prog Try.f10 false true false false) := by
  refine returnsInHanded_of_change (C := Try.checked) own_knob started (by kernel_rfl) Try.func10
    (ChangeSpec.witness6 (enc := enc) (C := Try.checked) false ⟨#[], #[.string .empty, .bool false], []⟩ 8 (by kernel_rfl) (by kernel_rfl) (by kernel_rfl) (by kernel_rfl)) ?_
  intro W base args ds gs before hval0 hW _ _
  have hval : ∀ (j : Nat) t v, Try.f10.params[j]? = some t → args[j]? = some v → Value.okWide Try.prog W .any base t v := hval0
  have hW' := hW
  obtain ⟨p, q, hA0, hV, rfl, _, _⟩ := hW
  have hA : DataW.TrodAll enc Try.prog W 0 (fun _ => true) true Try.f10.params.toList args.toList ds p := hA0
  rw [Try.params10] at hA hval
  obtain ⟨v0, vs0, d0, ds0, p0, q0, hargs, rfl, rfl, h0, r0⟩ := trodAll_cons hA
  obtain ⟨v1, vs1, d1, ds1, p1, q1, rfl, rfl, rfl, h1, r1⟩ := trodAll_cons r0
  obtain ⟨rfl, rfl, rfl⟩ := trodAll_nil r1
  obtain rfl : args = #[v0, v1] := by cases args; simp_all
  obtain ⟨rfl, rfl⟩ := trodVars_none hV
  obtain ⟨a0, rfl, rfl, rfl, w0⟩ := open_string Try.underlying9 (hval 0 9 v0 rfl rfl) h0
  obtain ⟨a1, rfl, rfl, rfl⟩ := open_bool Try.underlying4 (hval 1 4 v1 rfl rfl) h1
  clear hA0 hval0
  refine (walk_CharsBack a0 (by unfold maxLen at w0; exact w0) a1 W).mono fun e W' ⟨he, hb⟩ => ?_
  subst he
  exact ⟨_, rfl, law_post (by kernel_rfl) rfl rfl rfl hW' hb⟩

/-- the statement of CharsBack -/
theorem proved_CharsBack : Rows.CharsBackSaid :=
  OpenClaim.holds_of_wide 10 Try.f10 rfl rfl rfl rfl rfl rfl rfl ⟨rfl, rfl, rfl, rfl, rfl⟩ rfl rfl rfl rfl rfl (by kernel_rfl) Try.func10 (by kernel_rfl)
    (of_decide_eq_true (by kernel_rfl)) (by unfold Func.isWrapper; first | (rw [if_pos (by decide +kernel)]; kernel_rfl) | (rw [if_neg (by decide +kernel)]; exact ⟨rfl, rfl⟩))
    (fun os started H enc _ => lifted_CharsBack os started H enc)
end Go.Proofs.Ytjoljlcbkoakcaa
