import Derived.Test.YtcfpedjfofpnkaaGreatDoorRv13
import Derived.Test.YtcfpedjfofpnkaaGreatDoorRv5
import Derived.Test.YtcfpedjfofpnkaaGreatDoorRv12
import Derived.Test.YtcfpedjfofpnkaaGreatDoorRv4
set_option linter.unusedVariables false
set_option linter.unusedSimpArgs false
namespace Go.Proofs.YtcfpedjfofpnkaaGreatDoor
open Go.RowKit Go.Proofs.Cod
structure PI where
 i : In7
 line : Int
 off : List (Int × Tx)
structure PB where
 code : List PI
 labs : Tx → Option Nat
structure PS where
 N : Tx → Option (Int × Nat)
 nms : Int → List Tx
 bod : List PB
def PS.new : PS := ⟨fun _ => none, fun _ => [], []⟩
def declT (kd : Int) (ts : List Tx) (s : PS) : Except Int PS :=
 if kd = 0 ∨ ts = [] ∨ ts.all isNam = false then .error 2 else match declAll kd s.N (s.nms kd) ts with
  | none => .error 3
  | some p => if 4 < p.2.length then .error 4 else .ok { s with N := p.1, nms := putZ s.nms kd p.2 }
def setLast (s : PS) (b : PB) : PS := { s with bod := s.bod.dropLast ++ [b] }
def offP (l : List (Int × Tx)) : List (Int × Tx) := l.filter fun p => p.1 == 116 || p.1 == 108
def instrT (line : Int) (f : Tx) (ts : List Tx) (s : PS) (b : PB) : Except Int PS := match partsT f with
 | none => .error 2
 | some ps => if fitsT ts ps = false then .error 2 else if 24 ≤ b.code.length then .error 4 else match fillAll s.N (newIns f) (zipP ps ts) with
  | none => .error 5
  | some i => .ok (setLast s { b with code := b.code ++ [⟨i, line, offP (zipP ps ts)⟩] })
def markT (f : Tx) (s : PS) (b : PB) : Except Int PS := if isNam f.dropLast = false then .error 2 else match b.labs f.dropLast with
 | some _ => .error 3
 | none => .ok (setLast s { b with labs := putT b.labs f.dropLast b.code.length })
def addBody (s : PS) : PS := { s with bod := s.bod ++ [⟨[], fun _ => none⟩] }
def stepT (line : Int) (f : Tx) (ts : List Tx) (s : PS) : Except Int PS :=
 if f = tThread then (if ts.length = 1 then (declT 116 ts s).map addBody else .error 2)
 else match s.bod.getLast? with
  | none => declT (headK f) ts s
  | some b => if colonT f = true ∧ ts = [] then markT f s b else instrT line f ts s b
structure LB where
 a : Nat
 c : BdC
 pb : PB
def keysB (nb : Nat) (x : LB) : List (Nat × Nat × Int × Tx × Int) := (x.c.ins.zip x.pb.code).flatMap fun p => p.2.off.map fun q => (p.1, (if q.1 = 116 then nb else x.c.lm), q.1, q.2, p.2.line)
structure BLink (G : RG) (x : LB) : Prop where
 b : G.B x.a = some x.c
 labs : x.c.labs = x.pb.labs
 len : x.c.ins.length = x.pb.code.length
 ins : ∀ (k ia : Nat) (p : PI), x.c.ins[k]? = some ia → x.pb.code[k]? = some p → G.I ia = some p.i
 small : x.pb.code.length ≤ 24
structure Link (G : RG) (nb : Nat) (s : PS) (X : List LB) : Prop where
 N : G.N = s.N
 nms : G.nms = s.nms
 bods : G.bods = X.map LB.a
 bod : s.bod = X.map LB.pb
 each : ∀ x, x ∈ X → BLink G x
 keys : G.las.map CloC.key = X.flatMap (keysB nb)
 nda : (X.map LB.a).Nodup
 ndi : (X.flatMap fun x => x.c.ins).Nodup
structure PSok (s : PS) : Prop where
 thr : (s.nms 116).length = s.bod.length
 few : ∀ k, (s.nms k).length ≤ 4
def Fresh (G : RG) (n0 : Nat) : Prop := (∀ a c, G.B a = some c → a < n0) ∧ (∀ ia i, G.I ia = some i → ia < n0)
theorem Link.new (nb : Nat) : Link RG.new nb PS.new [] := ⟨rfl, rfl, rfl, rfl, (fun x hx => by cases hx), rfl, by simp, by simp⟩
section
variable {G G' : RG} {nb n0 : Nat} {s : PS} {X : List LB}
theorem decl_ok {kd : Int} {ts : List Tx} (hP : DeclP kd ts G G') (h : Link G nb s X) : ∃ s', declT kd ts s = .ok s' ∧ Link G' nb s' X ∧ s'.bod = s.bod ∧ (∀ k, (s.nms k).length ≤ 4 → (s'.nms k).length ≤ 4) ∧ s'.nms kd = s.nms kd ++ ts ∧ (∀ k, k ≠ kd → s'.nms k = s.nms k) ∧ G'.las = G.las ∧ G'.line = G.line := by
 obtain ⟨h1, h2, h3, h4, h5, h6, h7, h8, h9, h10, h11, h12, h13⟩ := hP
 rw [h.N, h.nms] at h4
 have hlen := declAll_len h4
 refine ⟨{ s with N := G'.N, nms := putZ s.nms kd (G'.nms kd) }, ?_, ⟨rfl, ?_, by rw [h8]; exact h.bods, h.bod, fun x hx => ?_, by rw [h12]; exact h.keys, h.nda, h.ndi⟩, rfl, fun k hk => ?_, ?_, fun k hk => putZ_other _ hk, h12, h7⟩
 ·unfold declT
  rw [if_neg (by simp [h1, h2, h3]), h4]
  show (if 4 < (G'.nms kd).length then _ else _) = _
  rw [if_neg (by omega)]
 ·funext k
  by_cases e : k = kd
  ·subst e; exact (putZ_same _ _ _).symm
  ·show G'.nms k = putZ s.nms kd (G'.nms kd) k
   rw [putZ_other _ e, h6 k e, h.nms]
 ·obtain ⟨b1, b2, b3, b4, b5⟩ := h.each x hx
  exact ⟨by rw [h10]; exact b1, b2, b3, by rw [h11]; exact b4, b5⟩
 ·show (putZ s.nms kd (G'.nms kd) k).length ≤ 4
  by_cases e : k = kd
  ·subst e; rw [putZ_same]; exact h5
  ·rw [putZ_other _ e]; exact hk
 ·show putZ s.nms kd (G'.nms kd) kd = _
  rw [putZ_same]; exact hlen
theorem decl_err {kd : Int} {ts : List Tx} {e : Int} (hE : DeclE kd ts G e) (h : Link G nb s X) : declT kd ts s = .error e := by
 unfold declT
 rcases hE with ⟨h1, rfl⟩ | ⟨⟨h1, h2, h3⟩, h4⟩
 ·rw [if_pos h1]
 ·rw [if_neg (by simp [h1, h2, h3])]
  rw [h.N, h.nms] at h4
  rcases h4 with ⟨h4, rfl⟩ | ⟨⟨p, h4, h5⟩, rfl⟩
  ·rw [h4]
  ·rw [h4]
   show (if 4 < p.2.length then _ else _) = _
   rw [if_pos h5]
theorem link_last (h : Link G nb s X) {a : Nat} (ha : G.bods.getLast? = some a) : ∃ X0 x, X = X0 ++ [x] ∧ x.a = a ∧ s.bod.getLast? = some x.pb ∧ s.bod.dropLast = X0.map LB.pb := by
 rw [h.bods] at ha
 rcases List.eq_nil_or_concat X with e | ⟨X0, x, e⟩
 ·rw [e] at ha; cases ha
 ·rw [List.concat_eq_append] at e
  subst e
  refine ⟨X0, x, rfl, ?_, ?_, ?_⟩
  ·simpa using ha
  ·rw [h.bod]; simp
  ·rw [h.bod]; simp
theorem putN_other {α : Type} {f : Nat → Option α} {a b : Nat} (v : α) (h : b ≠ a) : putN f a v b = f b := by simp [putN, h]
end
theorem off_eq (nb lm ia : Nat) (line : Int) (l : List (Int × Tx)) : l.flatMap (offOf nb lm ia line) = (offP l).map fun q => (ia, (if q.1 = 116 then nb else lm), q.1, q.2, line) := by
 induction l with
 | nil => rfl
 | cons p l ih =>
  rw [List.flatMap_cons, ih]
  unfold offP offOf
  by_cases h1 : p.1 = 116
  ·simp [h1]
  ·by_cases h2 : p.1 = 108
   ·simp [h2]
   ·simp [h1, h2]
section
variable {G G' : RG} {nb n0 : Nat} {s : PS} {X : List LB}
theorem BLink.addr {x : LB} (h : BLink G x) {ia : Nat} (hm : ia ∈ x.c.ins) : ∃ i, G.I ia = some i := by
 obtain ⟨k, hk⟩ := List.getElem?_of_mem hm
 have hl := (List.getElem?_eq_some_iff.1 hk).1
 obtain ⟨p, hp⟩ : ∃ p, x.pb.code[k]? = some p := ⟨_, List.getElem?_eq_getElem (by rw [← h.len]; exact hl)⟩
 exact ⟨_, h.ins k ia p hk hp⟩
theorem link_set {x x' : LB} {X0 : List LB} (h : Link G nb s (X0 ++ [x])) (ea : x'.a = x.a) (eN : G'.N = G.N) (en : G'.nms = G.nms) (eb : G'.bods = G.bods) (hB : ∀ a, a ≠ x.a → G'.B a = G.B a) (hI : ∀ y, y ∈ X0 → ∀ ia, ia ∈ y.c.ins → G'.I ia = G.I ia)
 (hx : BLink G' x') (hk : G'.las.map CloC.key = G.las.map CloC.key ++ (keysB nb x').drop (keysB nb x).length) (hkx : (keysB nb x').take (keysB nb x).length = keysB nb x) (hnd : (X0.flatMap (fun x => x.c.ins) ++ x'.c.ins).Nodup) : Link G' nb (setLast s x'.pb) (X0 ++ [x']) := by
 have hnda := h.nda
 rw [List.map_append] at hnda
 refine ⟨eN.trans h.N, en.trans h.nms, ?_, ?_, fun y hy => ?_, ?_, ?_, ?_⟩
 ·rw [eb, h.bods]; simp [ea]
 ·show s.bod.dropLast ++ [x'.pb] = _
  rw [h.bod]; simp
 ·rcases List.mem_append.1 hy with hy | hy
  ·obtain ⟨b1, b2, b3, b4, b5⟩ := h.each y (List.mem_append_left _ hy)
   have hne : y.a ≠ x.a := fun e => by
    have := (List.nodup_append.1 hnda).2.2 y.a (List.mem_map_of_mem hy) x.a (by simp)
    exact this e
   exact ⟨(hB _ hne).trans b1, b2, b3, fun k ia p hk hp => (hI y hy ia (List.mem_of_getElem? hk)).trans (b4 k ia p hk hp), b5⟩
  ·obtain rfl := List.mem_singleton.1 hy
   exact hx
 ·rw [hk, h.keys, List.flatMap_append, List.flatMap_append, List.append_assoc]
  congr 1
  simp only [List.flatMap_cons, List.flatMap_nil, List.append_nil]
  conv => rhs; rw [← List.take_append_drop (keysB nb x).length (keysB nb x'), hkx]
 ·rw [List.map_append]
  show (X0.map LB.a ++ [x'.a]).Nodup
  rw [ea]; exact hnda
 ·rw [List.flatMap_append]; simpa using hnd
theorem mark_ok {a : Nat} {bc : BdC} {n : Tx} (h : Link G nb s X) (ha : G.bods.getLast? = some a) (hb : G.B a = some bc) (hl : bc.labs n = none) : ∃ b X', s.bod.getLast? = some b ∧ b.labs n = none ∧ Link (G.mark a bc n) nb (setLast s { b with labs := putT b.labs n b.code.length }) X' := by
 obtain ⟨X0, x, rfl, rfl, h1, h2⟩ := link_last h ha
 have hx := h.each x (by simp)
 have e : x.c = bc := by have := hx.b; rw [hb] at this; exact (Option.some.inj this).symm
 subst e
 refine ⟨x.pb, X0 ++ [⟨x.a, { x.c with labs := putT x.c.labs n x.c.ins.length }, { x.pb with labs := putT x.pb.labs n x.pb.code.length }⟩], h1, by rw [← hx.labs]; exact hl, ?_⟩
 refine link_set (x' := ⟨x.a, { x.c with labs := putT x.c.labs n x.c.ins.length }, { x.pb with labs := putT x.pb.labs n x.pb.code.length }⟩) h rfl rfl rfl rfl (fun b hb => putN_other _ hb) (fun _ _ _ _ => rfl) ⟨putN_same _ _ _, ?_, hx.len, hx.ins, hx.small⟩ ?_ ?_ ?_
 ·show putT x.c.labs n x.c.ins.length = putT x.pb.labs n x.pb.code.length
  rw [hx.labs, hx.len]
 ·show G.las.map CloC.key = G.las.map CloC.key ++ (keysB nb x).drop (keysB nb x).length
  simp
 ·show (keysB nb x).take (keysB nb x).length = keysB nb x
  simp
 ·have := h.ndi
  rw [List.flatMap_append] at this
  simpa using this
theorem zip_push {α β : Type} {l : List α} {m : List β} (h : l.length = m.length) (x : α) (y : β) : (l ++ [x]).zip (m ++ [y]) = l.zip m ++ [(x, y)] := by
 rw [List.zip_append h]; rfl
theorem instr_ok {a : Nat} {bc : BdC} {op : Tx} {ts : List Tx} (h : Link G nb s X) (hF : Fresh G n0) (ha : G.bods.getLast? = some a) (hb : G.B a = some bc) (hP : InstrP n0 nb a bc op ts G G') :
 ∃ b X' s', s.bod.getLast? = some b ∧ instrT G.line op ts s b = .ok s' ∧ Link G' nb s' X' ∧ s'.nms = s.nms ∧ s'.bod.length = s.bod.length ∧ G'.las.length ≤ G.las.length + 3 ∧ G'.line = G.line := by
 obtain ⟨X0, x, rfl, rfl, h1, h2⟩ := link_last h ha
 have hx := h.each x (by simp)
 have e : x.c = bc := by have := hx.b; rw [hb] at this; exact (Option.some.inj this).symm
 subst e
 obtain ⟨ps, p1, p2, p3, ia, i, cs, lV, v, q1, q2, q3, rfl⟩ := hP
 have hzl : (zipP ps ts).length ≤ 3 := by
  have := partsT_mem p1
  unfold zipP; rw [List.length_zip, List.length_map]; omega
 have hcl : cs.length ≤ 3 := by
  have e1 := congrArg List.length q3
  rw [List.length_map, off_eq, List.length_map] at e1
  have e2 : (offP (zipP ps ts)).length ≤ (zipP ps ts).length := List.length_filter_le _ _
  omega
 have hnew : ∀ y, y ∈ X0 ++ [x] → ∀ k, k ∈ y.c.ins → k ≠ ia := fun y hy k hk e => by
  obtain ⟨j, hj⟩ := (h.each y hy).addr hk
  have := hF.2 k j hj
  omega
 obtain ⟨x', hx'⟩ : ∃ x' : LB, (⟨x.a, { x.c with ins := x.c.ins ++ [ia], cv := v }, { x.pb with code := x.pb.code ++ [⟨i, G.line, offP (zipP ps ts)⟩] }⟩ : LB) = x' := ⟨_, rfl⟩
 have hkeys : keysB nb x' = keysB nb x ++ (zipP ps ts).flatMap (offOf nb x.c.lm ia G.line) := by
  rw [← hx', off_eq]
  unfold keysB
  show ((x.c.ins ++ [ia]).zip (x.pb.code ++ [_])).flatMap _ = _
  rw [zip_push hx.len, List.flatMap_append]
  simp
 refine ⟨x.pb, X0 ++ [x'], setLast s x'.pb, h1, ?_, ?_, rfl, ?_, ?_, rfl⟩
 ·unfold instrT
  rw [p1]
  show (if fitsT ts ps = false then _ else _) = _
  rw [if_neg (by rw [p2]; simp), if_neg (by rw [← hx.len]; omega)]
  rw [h.N] at q2
  rw [q2, ← hx']
 ·refine link_set h (by rw [← hx']) rfl rfl rfl (fun b hb => putN_other _ hb) (fun y hy k hk => putN_other _ (hnew y (List.mem_append_left _ hy) k hk)) ?_ ?_ ?_ ?_
  ·rw [← hx']
   refine ⟨putN_same _ _ _, hx.labs, by simp [hx.len], fun k ja p hk hp => ?_, ?_⟩
   ·have hk : (x.c.ins ++ [ia])[k]? = some ja := hk
    have hp : (x.pb.code ++ [⟨i, G.line, offP (zipP ps ts)⟩])[k]? = some p := hp
    by_cases e : k < x.c.ins.length
    ·rw [List.getElem?_append_left e] at hk
     rw [List.getElem?_append_left (by rw [← hx.len]; exact e)] at hp
     show putN G.I ia i ja = _
     rw [putN_other _ (hnew x (by simp) ja (List.mem_of_getElem? hk))]
     exact hx.ins k ja p hk hp
    ·have hl := (List.getElem?_eq_some_iff.1 hk).1
     simp at hl
     have ek : k = x.c.ins.length := by omega
     subst ek
     rw [List.getElem?_append_right (Nat.le_refl _), Nat.sub_self] at hk
     rw [hx.len, List.getElem?_append_right (Nat.le_refl _), Nat.sub_self] at hp
     cases hk; cases hp
     exact putN_same _ _ _
   ·show (x.pb.code ++ [_]).length ≤ 24
    rw [List.length_append, ← hx.len]; simp; omega
  ·show (G.las ++ cs).map CloC.key = _
   rw [List.map_append, q3, hkeys, List.drop_left]
  ·rw [hkeys, List.take_left]
  ·have hnd := h.ndi
   rw [List.flatMap_append] at hnd
   simp only [List.flatMap_cons, List.flatMap_nil, List.append_nil] at hnd
   rw [← hx']
   show (X0.flatMap (fun x => x.c.ins) ++ (x.c.ins ++ [ia])).Nodup
   rw [← List.append_assoc, List.nodup_append]
   refine ⟨hnd, by simp, fun k hk j hj => ?_⟩
   obtain rfl := List.mem_singleton.1 hj
   rcases List.mem_append.1 hk with hk | hk
   ·obtain ⟨y, hy, hky⟩ := List.mem_flatMap.1 hk
    exact hnew y (List.mem_append_left _ hy) k hky
   ·exact hnew x (by simp) k hk
 ·show (s.bod.dropLast ++ [x'.pb]).length = s.bod.length
  rw [h.bod]; simp
 ·show (G.las ++ cs).length ≤ _
  rw [List.length_append]; omega
theorem begin_ok {ts : List Tx} (h : Link G nb s X) (hF : Fresh G n0) (hP : BeginP n0 ts G G') : ∃ s1 X', ts.length = 1 ∧ declT 116 ts s = .ok s1 ∧ Link G' nb (addBody s1) X' ∧ (∀ k, (s.nms k).length ≤ 4 → (s1.nms k).length ≤ 4) ∧ (s1.nms 116).length = (s.nms 116).length + 1 ∧ s1.bod = s.bod ∧ G'.las = G.las ∧ G'.line = G.line := by
 obtain ⟨h1, G1, a, lm, v, hD, ha, rfl⟩ := hP
 obtain ⟨s1, d1, d2, d3, d4, d5, d6, d7, d8⟩ := decl_ok hD h
 have hBI : G1.B = G.B ∧ G1.I = G.I := ⟨hD.2.2.2.2.2.2.2.2.2.1, hD.2.2.2.2.2.2.2.2.2.2.1⟩
 have hne : ∀ y, y ∈ X → y.a ≠ a := fun y hy e => by
  have := hF.1 y.a y.c (h.each y hy).b
  omega
 refine ⟨s1, X ++ [⟨a, { lm := lm, cv := .slice none 0 0, ins := [], labs := fun _ => none }, ⟨[], fun _ => none⟩⟩], h1, d1, ⟨d2.N, d2.nms, ?_, ?_, fun y hy => ?_, ?_, ?_, ?_⟩, d4, by rw [d5, List.length_append, h1], d3, d7, d8⟩
 ·show G1.bods ++ [a] = _
  rw [d2.bods]; simp
 ·show s1.bod ++ [⟨[], fun _ => none⟩] = _
  rw [d2.bod]; simp
 ·rcases List.mem_append.1 hy with hy | hy
  ·obtain ⟨b1, b2, b3, b4, b5⟩ := d2.each y hy
   exact ⟨(putN_other _ (hne y hy)).trans b1, b2, b3, b4, b5⟩
  ·obtain rfl := List.mem_singleton.1 hy
   exact ⟨putN_same _ _ _, rfl, rfl, (fun k ia p hk => by cases hk), by simp⟩
 ·show G1.las.map CloC.key = _
  rw [d2.keys, List.flatMap_append]; simp [keysB]
 ·rw [List.map_append, List.nodup_append]
  refine ⟨h.nda, by simp, fun k hk j hj => ?_⟩
  simp at hj
  obtain ⟨y, hy, rfl⟩ := List.mem_map.1 hk
  rw [hj]; exact hne y hy
 ·rw [List.flatMap_append]; simpa using d2.ndi
theorem take_ok {f : Tx} {ts : List Tx} (hP : TakeP n0 nb f ts G G') (h : Link G nb s X) (hs : PSok s) (hF : Fresh G n0) : ∃ s' X', stepT G.line f ts s = .ok s' ∧ Link G' nb s' X' ∧ PSok s' ∧ G'.las.length ≤ G.las.length + 3 ∧ G'.line = G.line := by
 rcases hP with ⟨h1, hP⟩ | ⟨h1, h2, hP⟩ | ⟨h1, a, bc, ha, hb, hP⟩
 ·obtain ⟨s1, X', b1, b2, b3, b4, b5, b6, b7, b8⟩ := begin_ok h hF hP
  refine ⟨addBody s1, X', ?_, b3, ⟨?_, fun k => b4 k (hs.few k)⟩, by rw [b7]; omega, b8⟩
  ·unfold stepT
   rw [if_pos h1, if_pos b1, b2]; rfl
  ·show (s1.nms 116).length = (s1.bod ++ [_]).length
   rw [b5, b6, List.length_append, hs.thr]; rfl
 ·obtain ⟨s1, d1, d2, d3, d4, d5, d6, d7, d8⟩ := decl_ok hP h
  have hb0 : s.bod = [] := by
   have := h.bods
   rw [h2] at this
   have hX : X = [] := by
    cases X with
    | nil => rfl
    | cons x X => simp at this
   rw [h.bod, hX]; rfl
  refine ⟨s1, X, ?_, d2, ⟨?_, fun k => d4 k (hs.few k)⟩, by rw [d7]; omega, d8⟩
  ·unfold stepT
   rw [if_neg h1, hb0]; exact d1
  ·have hne : (116 : Int) ≠ headK f := by
    unfold headK
    split
    ·decide
    ·split
     ·decide
     ·split <;> decide
   rw [d6 116 hne, d3]; exact hs.thr
 ·rcases hP with ⟨c1, c2, c3, c4, rfl⟩ | ⟨c1, hP⟩
  ·obtain ⟨b, X', m1, m2, m3⟩ := mark_ok h ha hb c4
   refine ⟨_, X', ?_, m3, ⟨?_, hs.few⟩, by show G.las.length ≤ _; omega, rfl⟩
   ·unfold stepT
    rw [if_neg h1, m1]
    show (if colonT f = true ∧ ts = [] then _ else _) = _
    rw [if_pos ⟨c1, c2⟩]
    unfold markT
    rw [if_neg (by rw [c3]; simp), m2]
   ·show (s.nms 116).length = (s.bod.dropLast ++ [_]).length
    have hne : s.bod ≠ [] := fun e => by rw [e] at m1; cases m1
    have := List.length_pos_iff.2 hne
    rw [List.length_append, List.length_dropLast, hs.thr]; simp; omega
  ·obtain ⟨b, X', s', i1, i2, i3, i4, i5, i6, i7⟩ := instr_ok h hF ha hb hP
   refine ⟨s', X', ?_, i3, ⟨by rw [i4, i5]; exact hs.thr, by rw [i4]; exact hs.few⟩, i6, i7⟩
   unfold stepT
   rw [if_neg h1, i1]
   show (if colonT f = true ∧ ts = [] then _ else _) = _
   rw [if_neg c1]; exact i2
theorem take_err {f : Tx} {ts : List Tx} {e : Int} (hE : TakeE f ts G e) (h : Link G nb s X) : stepT G.line f ts s = .error e := by
 unfold stepT
 rcases hE with ⟨h1, hE⟩ | ⟨h1, h2, hE⟩ | ⟨h1, a, bc, ha, hb, hE⟩
 ·rw [if_pos h1]
  rcases hE with ⟨h2, rfl⟩ | ⟨h2, hE⟩
  ·rw [if_neg h2]
  ·rw [if_pos h2, decl_err hE h]; rfl
 ·have hb0 : s.bod = [] := by
   have := h.bods
   rw [h2] at this
   have hX : X = [] := by
    cases X with
    | nil => rfl
    | cons x X => simp at this
   rw [h.bod, hX]; rfl
  rw [if_neg h1, hb0]
  exact decl_err hE h
 ·rw [if_neg h1]
  obtain ⟨X0, x, rfl, rfl, q1, q2⟩ := link_last h ha
  have hx := h.each x (by simp)
  have e' : x.c = bc := by have := hx.b; rw [hb] at this; exact (Option.some.inj this).symm
  subst e'
  rw [q1]
  rcases hE with ⟨c1, c2, hE⟩ | ⟨c1, hE⟩
  ·show (if colonT f = true ∧ ts = [] then _ else _) = _
   rw [if_pos ⟨c1, c2⟩]
   unfold markT
   rcases hE with ⟨d1, rfl⟩ | ⟨d1, ⟨n, hn⟩, rfl⟩
   ·rw [if_pos d1]
   ·rw [if_neg (by rw [d1]; simp), ← hx.labs, hn]
  ·show (if colonT f = true ∧ ts = [] then _ else _) = _
   rw [if_neg c1]
   unfold instrT
   rcases hE with ⟨d1, rfl⟩ | ⟨ps, d1, d2, d3⟩
   ·cases hp : partsT f with
    | none => rfl
    | some ps =>
     show (if fitsT ts ps = false then _ else _) = _
     rw [if_pos (d1 ps hp)]
   ·rw [d1]
    show (if fitsT ts ps = false then _ else _) = _
    rw [if_neg (by rw [d2]; simp)]
    rw [← hx.len]
    rcases d3 with ⟨d3, rfl⟩ | ⟨d3, d4, rfl⟩
    ·rw [if_pos d3]
    ·rw [h.N] at d4
     rw [if_neg (by omega), d4]
end
def tabOf (N : Tx → Option (Int × Nat)) (labs : Tx → Option Nat) (k : Int) : Tx → Option (Int × Nat) := if k = 116 then N else labE labs
def lookOff (N : Tx → Option (Int × Nat)) (labs : Tx → Option Nat) (q : Int × Tx) : Option Nat := match tabOf N labs q.1 q.2 with
 | some p => if p.1 = q.1 then some p.2 else none
 | none => none
def resOff (N : Tx → Option (Int × Nat)) (labs : Tx → Option Nat) : In7 → List (Int × Tx) → Option In7
 | i, [] => some i
 | i, q :: l => match lookOff N labs q with
  | some n => resOff N labs { i with x := (n : Int) } l
  | none => none
def resCode (N : Tx → Option (Int × Nat)) (labs : Tx → Option Nat) : List PI → Except Int (List In7)
 | [] => .ok []
 | p :: l => match resOff N labs p.i p.off with
  | some i => (resCode N labs l).map (i :: ·)
  | none => .error p.line
def resAll (N : Tx → Option (Int × Nat)) : List PB → Except Int (List (List In7))
 | [] => .ok []
 | b :: l => match resCode N b.labs b.code with
  | .ok c => (resAll N l).map (c :: ·)
  | .error e => .error e
structure QE where
 ia : Nat
 kd : Int
 nm : Tx
 ln : Int
 T : Tx → Option (Int × Nat)
def runQ : List QE → (Nat → Option In7) → Except Int (Nat → Option In7)
 | [], I => .ok I
 | q :: l, I => match q.T q.nm with
  | some p => if p.1 = q.kd then (match I q.ia with
   | some i => runQ l (putN I q.ia { i with x := (p.2 : Int) })
   | none => .error q.ln) else .error q.ln
  | none => .error q.ln
abbrev EE := LB × (Nat × PI) × (Int × Tx)
def eOf (x : LB) : List EE := (x.c.ins.zip x.pb.code).flatMap fun p => p.2.off.map fun q => (x, p, q)
def kOf (nb : Nat) (e : EE) : Nat × Nat × Int × Tx × Int := (e.2.1.1, (if e.2.2.1 = 116 then nb else e.1.c.lm), e.2.2.1, e.2.2.2, e.2.1.2.line)
def qOf (N : Tx → Option (Int × Nat)) (e : EE) : QE := ⟨e.2.1.1, e.2.2.1, e.2.2.2, e.2.1.2.line, tabOf N e.1.pb.labs e.2.2.1⟩
theorem keys_e (nb : Nat) (X : List LB) : X.flatMap (keysB nb) = (X.flatMap eOf).map (kOf nb) := by
 rw [List.map_flatMap]
 congr 1
 funext x
 unfold keysB eOf
 rw [List.map_flatMap]
 congr 1
 funext p
 rw [List.map_map]
 rfl
theorem run_off (N : Tx → Option (Int × Nat)) (x : LB) (ia : Nat) (p : PI) (rest : List QE) : ∀ (off : List (Int × Tx)) (i : In7) (I : Nat → Option In7), I ia = some i →
 (∃ i' I', resOff N x.pb.labs i off = some i' ∧ (∀ b, b ≠ ia → I' b = I b) ∧ I' ia = some i' ∧ runQ ((off.map fun q => qOf N (x, (ia, p), q)) ++ rest) I = runQ rest I') ∨ (resOff N x.pb.labs i off = none ∧ runQ ((off.map fun q => qOf N (x, (ia, p), q)) ++ rest) I = .error p.line)
 | [], i, I, h => .inl ⟨i, I, rfl, fun _ _ => rfl, h, rfl⟩
 | q :: off, i, I, h => by
  cases ht : tabOf N x.pb.labs q.1 q.2 with
  | none =>
   right
   constructor
   ·unfold resOff lookOff; rw [ht]
   ·show runQ (qOf N (x, (ia, p), q) :: _) I = _
    unfold runQ
    show (match tabOf N x.pb.labs q.1 q.2 with | some p_1 => _ | none => _) = _
    rw [ht]; rfl
  | some t =>
   by_cases hk : t.1 = q.1
   ·have hl : lookOff N x.pb.labs q = some t.2 := by unfold lookOff; rw [ht]; show (if t.1 = q.1 then _ else _) = _; rw [if_pos hk]
    have hr : runQ (((q :: off).map fun q => qOf N (x, (ia, p), q)) ++ rest) I = runQ ((off.map fun q => qOf N (x, (ia, p), q)) ++ rest) (putN I ia { i with x := (t.2 : Int) }) := by
     show runQ (qOf N (x, (ia, p), q) :: _) I = _
     conv => lhs; unfold runQ
     show (match tabOf N x.pb.labs q.1 q.2 with | some p_1 => _ | none => _) = _
     rw [ht]
     show (if t.1 = q.1 then _ else _) = _
     rw [if_pos hk]
     show (match I ia with | some i => _ | none => _) = _
     rw [h]; rfl
    have ho : resOff N x.pb.labs i (q :: off) = resOff N x.pb.labs { i with x := (t.2 : Int) } off := by
     conv => lhs; unfold resOff
     rw [hl]
    rw [hr, ho]
    rcases run_off N x ia p rest off { i with x := (t.2 : Int) } (putN I ia { i with x := (t.2 : Int) }) (putN_same _ _ _) with ⟨i', I', h1, h2, h3, h4⟩ | ⟨h1, h2⟩
    ·exact .inl ⟨i', I', h1, fun b hb => (h2 b hb).trans (putN_other _ hb), h3, h4⟩
    ·exact .inr ⟨h1, h2⟩
   ·right
    constructor
    ·have hl : lookOff N x.pb.labs q = none := by unfold lookOff; rw [ht]; show (if t.1 = q.1 then _ else _) = _; rw [if_neg hk]
     unfold resOff; rw [hl]
    ·show runQ (qOf N (x, (ia, p), q) :: _) I = _
     unfold runQ
     show (match tabOf N x.pb.labs q.1 q.2 with | some p_1 => _ | none => _) = _
     rw [ht]
     show (if t.1 = q.1 then _ else _) = _
     rw [if_neg hk]; rfl
theorem run_code (N : Tx → Option (Int × Nat)) (x : LB) (rest : List QE) : ∀ (al : List Nat) (ps : List PI) (I : Nat → Option In7), al.length = ps.length → al.Nodup → (∀ (k a : Nat) (p : PI), al[k]? = some a → ps[k]? = some p → I a = some p.i) →
 (∃ is I', resCode N x.pb.labs ps = .ok is ∧ is.length = al.length ∧ (∀ b, b ∉ al → I' b = I b) ∧ (∀ (k a : Nat) (i : In7), al[k]? = some a → is[k]? = some i → I' a = some i) ∧ runQ (((al.zip ps).flatMap fun p => p.2.off.map fun q => qOf N (x, p, q)) ++ rest) I = runQ rest I') ∨ ∃ e, resCode N x.pb.labs ps = .error e ∧ runQ (((al.zip ps).flatMap fun p => p.2.off.map fun q => qOf N (x, p, q)) ++ rest) I = .error e
 | [], [], I, _, _, _ => .inl ⟨[], I, rfl, rfl, fun _ _ => rfl, (fun k a i h => by cases h), rfl⟩
 | [], _ :: _, _, h, _, _ => by simp at h
 | _ :: _, [], _, h, _, _ => by simp at h
 | a :: al, p :: ps, I, hl, hn, hI => by
  rw [List.nodup_cons] at hn
  have ha : I a = some p.i := hI 0 a p rfl rfl
  have hz : (((a :: al).zip (p :: ps)).flatMap fun p => p.2.off.map fun q => qOf N (x, p, q)) ++ rest = (p.off.map fun q => qOf N (x, (a, p), q)) ++ (((al.zip ps).flatMap fun p => p.2.off.map fun q => qOf N (x, p, q)) ++ rest) := by
   rw [List.zip_cons_cons, List.flatMap_cons, List.append_assoc]
  rw [hz]
  rcases run_off N x a p (((al.zip ps).flatMap fun p => p.2.off.map fun q => qOf N (x, p, q)) ++ rest) p.off p.i I ha with ⟨i', I1, h1, h2, h3, h4⟩ | ⟨h1, h2⟩
  ·rw [h4]
   have hI1 : ∀ (k b : Nat) (q : PI), al[k]? = some b → ps[k]? = some q → I1 b = some q.i := fun k b q hk hq => by
    rw [h2 b (fun e => hn.1 (by rw [← e]; exact List.mem_of_getElem? hk))]
    exact hI (k + 1) b q (by simpa using hk) (by simpa using hq)
   rcases run_code N x rest al ps I1 (by simpa using hl) hn.2 hI1 with ⟨is, I', g1, g2, g3, g4, g5⟩ | ⟨e, g1, g2⟩
   ·refine .inl ⟨i' :: is, I', ?_, by simp [g2], fun b hb => ?_, fun k b i hk hi => ?_, g5⟩
    ·unfold resCode; rw [h1, g1]; rfl
    ·simp only [List.mem_cons, not_or] at hb
     rw [g3 b hb.2, h2 b hb.1]
    ·cases k with
     | zero =>
      cases hk; cases hi
      rw [g3 a hn.1]; exact h3
     | succ k => exact g4 k b i (by simpa using hk) (by simpa using hi)
   ·refine .inr ⟨e, ?_, g2⟩
    unfold resCode; rw [h1, g1]; rfl
  ·refine .inr ⟨p.line, ?_, h2⟩
   unfold resCode; rw [h1]
theorem run_all (N : Tx → Option (Int × Nat)) : ∀ (X : List LB) (I : Nat → Option In7), (X.flatMap fun x => x.c.ins).Nodup → (∀ x, x ∈ X → x.c.ins.length = x.pb.code.length ∧ ∀ (k a : Nat) (p : PI), x.c.ins[k]? = some a → x.pb.code[k]? = some p → I a = some p.i) →
 (∃ C I', resAll N (X.map LB.pb) = .ok C ∧ C.length = X.length ∧ (∀ b, b ∉ (X.flatMap fun x => x.c.ins) → I' b = I b) ∧ (∀ (j : Nat) (x : LB) (is : List In7), X[j]? = some x → C[j]? = some is → is.length = x.c.ins.length ∧ ∀ (k a : Nat) (i : In7), x.c.ins[k]? = some a → is[k]? = some i → I' a = some i) ∧ runQ ((X.flatMap eOf).map (qOf N)) I = .ok I') ∨ ∃ e, resAll N (X.map LB.pb) = .error e ∧ runQ ((X.flatMap eOf).map (qOf N)) I = .error e
 | [], I, _, _ => .inl ⟨[], I, rfl, rfl, fun _ _ => rfl, (fun j x is h => by cases h), rfl⟩
 | x :: X, I, hn, hI => by
  rw [List.flatMap_cons, List.nodup_append] at hn
  obtain ⟨hn1, hn2, hn3⟩ := hn
  have hx := hI x (by simp)
  have hz : ((x :: X).flatMap eOf).map (qOf N) = ((x.c.ins.zip x.pb.code).flatMap fun p => p.2.off.map fun q => qOf N (x, p, q)) ++ (X.flatMap eOf).map (qOf N) := by
   rw [List.flatMap_cons, List.map_append]
   congr 1
   unfold eOf
   rw [List.map_flatMap]
   congr 1
   funext p
   rw [List.map_map]
   rfl
  rw [hz]
  rcases run_code N x ((X.flatMap eOf).map (qOf N)) x.c.ins x.pb.code I hx.1 hn1 hx.2 with ⟨is, I1, h1, h2, h3, h4, h5⟩ | ⟨e, h1, h2⟩
  ·rw [h5]
   have hI1 : ∀ y, y ∈ X → y.c.ins.length = y.pb.code.length ∧ ∀ (k a : Nat) (p : PI), y.c.ins[k]? = some a → y.pb.code[k]? = some p → I1 a = some p.i := fun y hy => by
    have := hI y (by simp [hy])
    refine ⟨this.1, fun k a p hk hp => ?_⟩
    rw [h3 a (fun hm => hn3 a hm a (List.mem_flatMap.2 ⟨y, hy, List.mem_of_getElem? hk⟩) rfl)]
    exact this.2 k a p hk hp
   rcases run_all N X I1 hn2 hI1 with ⟨C, I', g1, g2, g3, g4, g5⟩ | ⟨e, g1, g2⟩
   ·refine .inl ⟨is :: C, I', ?_, by simp [g2], fun b hb => ?_, fun j y js hj hjs => ?_, g5⟩
    ·rw [List.map_cons]; unfold resAll; rw [h1]
     show (resAll N (X.map LB.pb)).map _ = _
     rw [g1]; rfl
    ·rw [List.flatMap_cons, List.mem_append, not_or] at hb
     rw [g3 b hb.2, h3 b hb.1]
    ·cases j with
     | zero =>
      cases hj; cases hjs
      refine ⟨h2, fun k a i hk hi => ?_⟩
      rw [g3 a (fun hm => hn3 a (List.mem_of_getElem? hk) a hm rfl)]
      exact h4 k a i hk hi
     | succ j => exact g4 j y js (by simpa using hj) (by simpa using hjs)
   ·refine .inr ⟨e, ?_, g2⟩
    rw [List.map_cons]; unfold resAll; rw [h1]
    show (resAll N (X.map LB.pb)).map _ = _
    rw [g1]; rfl
  ·refine .inr ⟨e, ?_, h2⟩
   rw [List.map_cons]; unfold resAll; rw [h1]
def lineT (n : Int) (l : Tx) (s : PS) : Except Int PS := match wordsT l with
 | [] => .ok s
 | f :: ts => stepT n f ts s
def linesT : List Tx → Int → PS → Except (Int × Int) PS
 | [], _, s => .ok s
 | l :: ls, n, s => match lineT (n + 1) l s with
  | .ok s' => linesT ls (n + 1) s'
  | .error e => .error (e, n + 1)
end Go.Proofs.YtcfpedjfofpnkaaGreatDoor
namespace Go.Proofs.YtcfpedjfofpnkaaGreatDoor
open Go.RowKit Go.Shelf Go.Proofs.Cod
theorem RdW.keepO {w w' : World} {tag : Nat → RT} {base rb nb lb : Nat} {G : RG} (h : RdW w tag base rb nb lb G) (hb : ∀ b, b < w.heap.size → tag b ≠ .o ∨ b < base → w'.heap[b]? = w.heap[b]?) (hs : w.heap.size ≤ w'.heap.size) : RdW w' tag base rb nb lb G := by
 have key : ∀ {b : Nat} {g : RT}, tag b = g → g ≠ .o → w'.heap[b]? = w.heap[b]? ∧ tag b = g := fun {b g} e h1 => ⟨hb b (h.lt e h1) (.inl (by rw [e]; exact h1)), e⟩
 have hg1 := h.g1
 have hg2 := h.g2
 have hg3 := h.g3
 refine ⟨(key h.trd (by simp)).1.trans h.cell, fun k hk => (h.rows k hk).kept fun b e => key e (by simp), h.brow.kept fun b e => key e (by simp), h.lrow.kept fun b e => key e (by simp), h.names.kept (key h.tnm (by simp)).1 fun b e => key e (by simp), ?_, fun a c hc => ?_, fun a i hi => ?_, fun c hc => (h.clos c hc).kept fun b e => key e (by simp), h.trd, h.tnm, h.tli, fun b e => ⟨(h.tlt b e).1, Nat.lt_of_lt_of_le (h.tlt b e).2 hs⟩, h.heads.kept (hb _ (by omega) (.inr hg1)), h.shapes.kept (hb _ (by omega) (.inr hg2)), hg1, hg2, by omega⟩
 ·obtain ⟨n, hn⟩ := h.lists
  exact ⟨n, hn.same (key h.tli (by simp)).1⟩
 ·refine (h.bodies a c hc).kept fun b e => ?_
  rcases e with e | e | e | e
  ·exact ⟨(key e (by simp)).1, rfl⟩
  ·exact ⟨(key e (by simp)).1, rfl⟩
  ·exact ⟨(key e (by simp)).1, rfl⟩
  ·exact ⟨(key e (by simp)).1, rfl⟩
 ·have := h.ins a i hi
  exact ⟨(key this.2 (by simp)).1.trans this.1, this.2⟩
theorem RdW.fresh {w : World} {tag : Nat → RT} {base rb nb lb : Nat} {G : RG} (h : RdW w tag base rb nb lb G) : Fresh G w.heap.size :=
 ⟨fun a c hc => h.lt (h.bodies a c hc).ta (by simp), fun ia i hi => h.lt (h.ins ia i hi).2 (by simp)⟩
theorem RdW.setLine {w : World} {tag : Nat → RT} {base rb nb lb : Nat} {G : RG} (h : RdW w tag base rb nb lb G) (n : Int) : RdW (w.setCell ⟨rb, 0, none⟩ (.int .i64 n)) tag base rb nb lb { G with line := n } ∧ Ext w tag (w.setCell ⟨rb, 0, none⟩ (.int .i64 n)) tag := by
 have hx : Ext w tag (w.setCell ⟨rb, 0, none⟩ (.int .i64 n)) tag := ⟨rfl, rfl, rfl, by simp, fun _ _ => rfl, fun b _ hbo => Below.heap_setCell w ⟨rb, 0, none⟩ _ b (ne_tag hbo h.trd (by simp))⟩
 refine ⟨h.step (fun g => g = .rd) hx (fun b _ _ h2 => Below.heap_setCell w ⟨rb, 0, none⟩ _ b (fun e => h2 (by rw [e]; exact h.trd))) (fun b hb hn => absurd (h.tlt b hn).2 (by omega)) (by rw [heap_setCell_same w rb 0 _ _ _ h.cell]; rfl) (fun k _ => .inl ⟨rfl, rfl, by simp⟩) (.inl ⟨rfl, rfl, by simp⟩) (.inl ⟨rfl, rfl, by simp⟩) (.inl ⟨rfl, by simp⟩) (by simp) (by simp) (by simp) (fun a c hc => .inl ⟨hc, by simp, by simp, by simp⟩) (fun a i hi => .inl ⟨hi, ?_⟩) (fun c hc => .inl hc), hx⟩
 exact Below.heap_setCell w ⟨rb, 0, none⟩ _ a (ne_tag (h.ins a i hi).2 h.trd (by simp))
theorem Link.line {G : RG} {nb : Nat} {s : PS} {X : List LB} (h : Link G nb s X) (n : Int) : Link { G with line := n } nb s X :=
 ⟨h.N, h.nms, h.bods, h.bod, fun x hx => ⟨(h.each x hx).b, (h.each x hx).labs, (h.each x hx).len, (h.each x hx).ins, (h.each x hx).small⟩, h.keys, h.nda, h.ndi⟩
theorem linesT_take {ls : List Tx} {i : Nat} {l : Tx} (hl : ls[i]? = some l) {n : Int} {s0 s : PS} (h : linesT (ls.take i) n s0 = .ok s) : (∀ s', lineT (n + i + 1) l s = .ok s' → linesT (ls.take (i + 1)) n s0 = .ok s') ∧ (∀ e, lineT (n + i + 1) l s = .error e → linesT ls n s0 = .error (e, n + i + 1)) := by
 induction ls generalizing i n s0 with
 | nil => cases hl
 | cons x ls ih =>
  cases i with
  | zero =>
   have hl : some x = some l := hl
   cases hl
   have e : s0 = s := by
    have h : (Except.ok s0 : Except (Int × Int) PS) = .ok s := h
    exact Except.ok.inj h
   subst e
   constructor
   ·intro s' h'
    have h' : lineT (n + 1) l s0 = .ok s' := by simpa using h'
    show (match lineT (n + 1) l s0 with | .ok s' => linesT (ls.take 0) (n + 1) s' | .error e => .error (e, n + 1)) = _
    rw [h']; rfl
   ·intro e h'
    have h' : lineT (n + 1) l s0 = .error e := by simpa using h'
    show (match lineT (n + 1) l s0 with | .ok s' => linesT ls (n + 1) s' | .error e => .error (e, n + 1)) = _
    rw [h']
    simp
  | succ i =>
   have h : (match lineT (n + 1) x s0 with | .ok s' => linesT (ls.take i) (n + 1) s' | .error e => .error (e, n + 1)) = .ok s := h
   cases hx : lineT (n + 1) x s0 with
   | error e => rw [hx] at h; cases h
   | ok s1 =>
    rw [hx] at h
    have e1 : n + ((i + 1 : Nat) : Int) + 1 = (n + 1) + (i : Int) + 1 := by omega
    rw [e1]
    obtain ⟨g1, g2⟩ := ih (by simpa using hl) h
    constructor
    ·intro s' h'
     show (match lineT (n + 1) x s0 with | .ok s' => linesT (ls.take (i + 1)) (n + 1) s' | .error e => .error (e, n + 1)) = _
     rw [hx]; exact g1 s' h'
    ·intro e h'
     show (match lineT (n + 1) x s0 with | .ok s' => linesT ls (n + 1) s' | .error e => .error (e, n + 1)) = _
     rw [hx]; exact g2 e h'
attribute [local go_sem] Oper.semAt_some
theorem fault_val {P : Program} {w : World} {fn : Func} {tmps : Array Value} {b : Nat} {e l : Int} (hr : fn.results = #[.cell 4 127]) (ht : tmps[4]? = some (.pointer (some ⟨b, 0, none⟩))) (hc : w.heap[b]? = some (.cells #[.int .i64 e, .int .i64 l] 127)) : (results fn tmps).run Tryz.prog w = .ok (.agg #[.int .i64 e, .int .i64 l]) w := by
 have c0 : w.cell? ⟨b, 0, none⟩ = some (.int .i64 e) := by simp [World.cell?, hc]
 have c1 : w.cell? ⟨b, 1, none⟩ = some (.int .i64 l) := by simp [World.cell?, hc]
 simp [results, hr, ht, go_sem, c0, c1]
theorem leave_fault {W : World} {n : Nat} {tmps : Array Value} {R : Ending → World → Prop} {e l x y : Int} (ht : tmps[4]? = some (.pointer (some ⟨n + 1, 0, none⟩))) (hD : W.heap[n + 5]? = some (.deferred (some []))) (hc : W.heap[n + 1]? = some (.cells #[.int .i64 x, .int .i64 y] 127))
 (hR : ∀ W', (∀ b, b < W.heap.size → b ≠ n + 1 → b ≠ n + 5 → W'.heap[b]? = W.heap[b]?) → W.heap.size ≤ W'.heap.size → W'.os = W.os → W'.tape = W.tape → W'.output = W.output → R (.returned (.agg #[.int .i64 e, .int .i64 l])) W') :
 LeavesInM Fence.wide 9 Tryz.prog Tryz.f44 tmps R [{ target := .collected (n + 5), args := #[] }, { target := .fn (.func 79) #[.pointer (some ⟨n + 1, 0, none⟩)], args := #[] }] (.panicking (faultC e l)) W := by
 have hl5 : n + 5 < W.heap.size := (Array.getElem?_eq_some_iff.1 hD).1
 refine ⟨by simp, .inl ⟨n + 5, _, rfl, run_takeDeferred hD, ?_⟩⟩
 refine ⟨by simp, .inr ⟨fun _ => by omega, _, _, 79, #[.pointer (some ⟨n + 1, 0, none⟩)], rfl, by simp [invoke, go_sem], fun _ _ => trivial, ?_⟩⟩
 refine (catch_fault (n + 1) _ e l x y _ ((World.putObj_heap_other (by omega)).trans hc)).mono ?_
 rintro en u' w' ⟨rfl, ⟨v, rfl⟩, h1, h2, h3, h4, h5, h6⟩
 have hs : settle (.panicking [{ v := v, recovered := true }]) = .returning := rfl
 show LeavesInM _ _ _ _ _ _ [] (settle _) w'
 rw [hs]
 refine ⟨_, fault_val (P := Tryz.prog) rfl ht h1, hR w' (fun b hb h7 h8 => (h2 b (by simpa using hb) h7).trans (World.putObj_heap_other h8)) (by simpa using h3) h4 h5 h6⟩
theorem leave_calm {W : World} {n : Nat} {tmps : Array Value} {R : Ending → World → Prop} {e l : Int} (ht : tmps[4]? = some (.pointer (some ⟨n + 1, 0, none⟩))) (hD : W.heap[n + 5]? = some (.deferred (some []))) (hc : W.heap[n + 1]? = some (.cells #[.int .i64 e, .int .i64 l] 127))
 (hR : ∀ W', (∀ b, b < W.heap.size → b ≠ n + 5 → W'.heap[b]? = W.heap[b]?) → W.heap.size ≤ W'.heap.size → W'.os = W.os → W'.tape = W.tape → W'.output = W.output → R (.returned (.agg #[.int .i64 e, .int .i64 l])) W') :
 LeavesInM Fence.wide 9 Tryz.prog Tryz.f44 tmps R [{ target := .collected (n + 5), args := #[] }, { target := .fn (.func 79) #[.pointer (some ⟨n + 1, 0, none⟩)], args := #[] }] .returning W := by
 have hl5 : n + 5 < W.heap.size := (Array.getElem?_eq_some_iff.1 hD).1
 refine ⟨by simp, .inl ⟨n + 5, _, rfl, run_takeDeferred hD, ?_⟩⟩
 refine ⟨by simp, .inr ⟨fun _ => by omega, _, _, 79, #[.pointer (some ⟨n + 1, 0, none⟩)], rfl, by simp [invoke, go_sem], fun _ _ => trivial, ?_⟩⟩
 refine (catch_none ⟨n + 1, 0, none⟩ _ _).mono ?_
 rintro en u' w' ⟨rfl, rfl, rfl⟩
 have hs : settle .returning = .returning := rfl
 show LeavesInM _ _ _ _ _ _ [] (settle _) _
 rw [hs]
 refine ⟨_, fault_val (P := Tryz.prog) rfl ht ((World.putObj_heap_other (by omega)).trans hc), hR _ (fun b hb h8 => World.putObj_heap_other h8) (by simp) rfl rfl rfl⟩
structure ProgW (w : World) (base : Nat) (vV fV lV thV : Value) (vs fs ls : List Tx) (L : List (Tx × Value)) (C : List (List In7)) : Prop where
 v : w.ownsRow base 9 1 vV vs.length (vs.map strW)
 f : w.ownsRow base 9 1 fV fs.length (fs.map strW)
 l : w.ownsRow base 9 1 lV ls.length (ls.map strW)
 t : w.ownsRow base 63 2 thV L.length (thrC L)
 c : ∀ (i : Nat) (p : Tx × Value) (is : List In7), L[i]? = some p → C[i]? = some is → w.ownsRow base 67 7 p.2 is.length (codeC is)
 len : C.length = L.length
def NoRow (w : World) (b : Nat) : Prop := ∀ cs e, w.heap[b]? = some (.cells cs e) → e ≠ 9 ∧ e ≠ 63 ∧ e ≠ 67
theorem owns_norow {w w' : World} {base e size n : Nat} {v : Value} {xs : List Value} (h : w.ownsRow base e size v n xs) (he : e = 9 ∨ e = 63 ∨ e = 67) (hb : ∀ b, base ≤ b → b < w.heap.size → ¬ NoRow w b → w'.heap[b]? = w.heap[b]?) : w'.ownsRow base e size v n xs := by
 refine ⟨h.1, ?_⟩
 rcases h.2 with hn | ⟨g, cap, cur, rfl, hB, hg, rest⟩
 ·exact .inl hn
 ·refine .inr ⟨g, cap, cur, rfl, hB, (hb g hB (Array.getElem?_eq_some_iff.1 hg).1 (fun hno => ?_)).trans hg, rest⟩
  have := hno cur e hg
  rcases he with e' | e' | e'
  ·exact this.1 e'
  ·exact this.2.1 e'
  ·exact this.2.2 e'
theorem ProgW.kept {w w' : World} {base : Nat} {vV fV lV thV : Value} {vs fs ls : List Tx} {L : List (Tx × Value)} {C : List (List In7)} (h : ProgW w base vV fV lV thV vs fs ls L C) (hb : ∀ b, base ≤ b → b < w.heap.size → ¬ NoRow w b → w'.heap[b]? = w.heap[b]?) : ProgW w' base vV fV lV thV vs fs ls L C :=
 ⟨owns_norow h.v (.inl rfl) hb, owns_norow h.f (.inl rfl) hb, owns_norow h.l (.inl rfl) hb, owns_norow h.t (.inr (.inl rfl)) hb, fun i p is h1 h2 => owns_norow (h.c i p is h1 h2) (.inr (.inr rfl)) hb, h.len⟩
def parseL (t : Tx) : Except (Int × Int) (PS × List (List In7)) := match linesT (splitT 10 t) 0 PS.new with
 | .error e => .error e
 | .ok s => match resAll s.N s.bod with
  | .error l => .error (5, l)
  | .ok C => .ok (s, C)
structure ReadOk (w' : World) (base rb : Nat) (s : PS) (C : List (List In7)) : Prop where
 ex : ∃ vV fV lV thV L, w'.cell? ⟨rb, 1, none⟩ = some vV ∧ w'.cell? ⟨rb, 2, none⟩ = some fV ∧ w'.cell? ⟨rb, 3, none⟩ = some lV ∧ w'.cell? ⟨rb, 4, none⟩ = some thV ∧ ProgW w' base vV fV lV thV (s.nms 118) (s.nms 102) (s.nms 109) L C ∧ L.map Prod.fst = s.nms 116
def ReadR (w : World) (base rb : Nat) (t : Tx) (e : Ending) (w' : World) : Prop := Below base w w' ∧ ((∃ er ln, parseL t = .error (er, ln) ∧ e = .returned (.agg #[.int .i64 er, .int .i64 ln])) ∨ (∃ s C, parseL t = .ok (s, C) ∧ e = .returned (.agg #[.int .i64 0, .int .i64 0]) ∧ ReadOk w' base rb s C))
theorem parse_err1 {t : Tx} {e l : Int} (h : linesT (splitT 10 t) 0 PS.new = .error (e, l)) : parseL t = .error (e, l) := by unfold parseL; rw [h]
theorem parse_err2 {t : Tx} {s : PS} {l : Int} (h : linesT (splitT 10 t) 0 PS.new = .ok s) (h2 : resAll s.N s.bod = .error l) : parseL t = .error (5, l) := by unfold parseL; rw [h]; show (match resAll s.N s.bod with | .error l => _ | .ok C => _) = _; rw [h2]
theorem parse_ok {t : Tx} {s : PS} {C : List (List In7)} (h : linesT (splitT 10 t) 0 PS.new = .ok s) (h2 : resAll s.N s.bod = .ok C) : parseL t = .ok (s, C) := by unfold parseL; rw [h]; show (match resAll s.N s.bod with | .error l => _ | .ok C => _) = _; rw [h2]
structure LookJ (W : World) (tag : Nat → RT) (base rb nb lb : Nat) (G : RG) (s : PS) (X : List LB) (j : Nat) (Wj : World) (I : Nat → Option In7) : Prop where
 rd : RdW Wj tag base rb nb lb { G with I := I }
 ext : Ext W tag Wj tag
 run : runQ ((X.flatMap eOf).map (qOf s.N)) G.I = runQ (((X.flatMap eOf).map (qOf s.N)).drop j) I
 some : ∀ ia, (G.I ia).isSome = true → (I ia).isSome = true
theorem Link.las_at {G : RG} {nb : Nat} {s : PS} {X : List LB} (h : Link G nb s X) {j : Nat} {c : CloC} (hc : G.las[j]? = some c) : ∃ x p q, (X.flatMap eOf)[j]? = some (x, p, q) ∧ x ∈ X ∧ c.ia = p.1 ∧ c.tb = (if q.1 = 116 then nb else x.c.lm) ∧ c.kd = q.1 ∧ c.nm = q.2 ∧ c.ln = p.2.line ∧ p.1 ∈ x.c.ins := by
 have h1 : (G.las.map CloC.key)[j]? = some c.key := by rw [List.getElem?_map, hc]; rfl
 rw [h.keys, keys_e, List.getElem?_map] at h1
 obtain ⟨⟨x, p, q⟩, h2, h3⟩ := Option.map_eq_some_iff.1 h1
 have hm := List.mem_of_getElem? h2
 obtain ⟨y, hy, hm⟩ := List.mem_flatMap.1 hm
 unfold eOf at hm
 obtain ⟨p', hp', hm⟩ := List.mem_flatMap.1 hm
 obtain ⟨q', hq', e⟩ := List.mem_map.1 hm
 simp only [Prod.mk.injEq] at e
 obtain ⟨rfl, rfl, rfl⟩ := e
 simp only [kOf, CloC.key, Prod.mk.injEq] at h3
 obtain ⟨e1, e2, e3, e4, e5⟩ := h3
 exact ⟨y, p', q', h2, hy, e1.symm, e2.symm, e3.symm, e4.symm, e5.symm, (List.of_mem_zip hp').1⟩
end Go.Proofs.YtcfpedjfofpnkaaGreatDoor
