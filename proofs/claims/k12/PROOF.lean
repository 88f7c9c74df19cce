import PyProof.Rows.All
import Wide.All
import OpenK.AllK
import Wide.FinOn
import KE.KBits
import KE.BitLaws
import HandS.ForMost
import HandS.ForExc
import HandS.IsInst
import HandS.Wide
import HandS.WideBits
import HandS.WideMore
import HandS.Flow
import HandS.ExcInit
import HandS.Codes
import HandS.ExcField
import HandS.ExcIs
import KE.KExcIs
import KE.KIsAll
import HandS.More
import HandS.Dict
import HandS.Iter
import HandS.CallLocal
import HandS.Zip
import HandS.Text
import HandS.Conv
import HandS.WrittenGet
import PySem.Challenge.RW_wasmhost_k12_opcodes
set_option Elab.async false
set_option linter.all false
set_option maxRecDepth 100000
set_option maxHeartbeats 4000000
namespace V
open PySem PySem.Spec PyProof.Rows L2
/-! ### a def that may be called by its name -/
structure Cal (P : Program) (w : World) (K : PySem.W.Frag) (mg : Str → Option Value) (base : Heap) (C : CXT) (k : Nat) (x : Str) (sp : Sp) : Prop where
  ex : ∃ (f : Addr) (fd : FuncData) (ps : List Str), FnOk P w K mg base C k f fd ps sp ∧ mg x = some (.ref f) ∧ PySem.W.keepIn K (.ref f) = true ∧ Binds K fd ps []
section
variable {P : Program} {w : World} {K : PySem.W.Frag} {mg : Str → Option Value} {base : Heap} {k : Nat} {x : Str} {sp sp' : Sp} {C : CXT}
theorem Cal.mono (c : Cal P w K mg base C k x sp) {j : Nat} (h : k ≤ j) : Cal P w K mg base C j x sp := by
  obtain ⟨f, fd, ps, F, m, kp, b⟩ := c.ex
  exact ⟨f, fd, ps, F.mono h, m, kp, b⟩
theorem Cal.imp (c : Cal P w K mg base C k x sp) (h : ∀ vs H Q E, sp' vs H Q E → sp vs H Q E) : Cal P w K mg base C k x sp' := by
  obtain ⟨f, fd, ps, F, m, kp, b⟩ := c.ex
  exact ⟨f, fd, ps, F.imp h, m, kp, b⟩
/-- a def as the top leaves it -/
structure Def (K : PySem.W.Frag) (mg : Str → Option Value) (x : Str) (st : Stmt) (ps : List Str) : Prop where
  ex : ∃ (f : Addr) (fd : FuncData), L2.Fun K x x st f fd ∧ mg x = some (.ref f) ∧ Binds K fd ps []
theorem Def.ok {st : Stmt} {N ps : List Str} (D : Def K mg x st ps) (S : FnScope N ps (defScope st)) (len : ∀ vs H Q E, sp vs H Q E → vs.length = ps.length)
    (hbody : ∀ (f : Addr) (cdv : Value) (A : Around) (outer : List Env) (s : Shared) (H : Hp) (vs : List V) (Q : VK) (E : XK), Room k (A.deeper (envOfC x (defScope st) s.heap.objs.size f cdv)) → sp vs H Q E →
      ∃ t, PSs (cxOf CX0 P w K mg base N x (defScope st) f cdv A outer s H E).nox (defBody st) t ∧ t { nx := fun _ H' => Q .non H', rt := Q } (start N vs) H) : Cal P w K mg base CX0 (k + 1) x sp := by
  obtain ⟨f, fd, F, m, b⟩ := D.ex
  exact ⟨f, fd, ps, F.ok S len (hbody f), m, F.kp, b⟩
theorem Def.okX {st : Stmt} {N ps : List Str} (D : Def K mg x st ps) (S : FnScope N ps (defScope st)) (len : ∀ vs H Q E, sp vs H Q E → vs.length = ps.length)
    (hbody : ∀ (f : Addr) (cdv : Value) (A : Around) (outer : List Env) (s : Shared) (H : Hp) (vs : List V) (Q : VK) (E : XK), Room k (A.deeper (envOfC x (defScope st) s.heap.objs.size f cdv)) → sp vs H Q E →
      ∃ t, PSs (cxOf (L2.CX P w) P w K mg base N x (defScope st) f cdv A outer s H E) (defBody st) t ∧ t { nx := fun _ H' => Q .non H', rt := Q } (start N vs) H) : Cal P w K mg base (L2.CX P w) (k + 1) x sp := by
  obtain ⟨f, fd, F, m, b⟩ := D.ex
  exact ⟨f, fd, ps, F.okX S len (hbody f), m, F.kp, b⟩
end
section
variable {X : Cx} {k j : Nat} {x : Str} {sp : Sp} {p pos : Pos} {e : Expr} {es : List Expr} {t : TA} {C : CXT} {E : XK}
theorem pe_cE (c : Cal X.prog X.w X.K X.mg X.base C k x sp) (hr : Room j X.A) (hk : k ≤ j) (hx : Passes C X E) (hg : Gl X x) (ha : PA X (e :: es) t)
    (hdb : (x == ("__debug__" : Str)) = false := by decide) (he : starEach (e :: es) X.env = (false, eval e X.env) :: starEach es X.env := by rfl) (hpl : (backTo pos (starEach es X.env)).any (·.1) = false := by rfl) :
    PE X (.Call (.Name x p) (e :: es) [] pos) (tCall sp [] E t) := by
  obtain ⟨f, fd, ps, F, hm, kp, b⟩ := c.ex
  exact pe_call F (hr.mono hk) hg hm kp b .nil hx ha hdb he hpl
theorem pe_cE0 (c : Cal X.prog X.w X.K X.mg X.base C k x sp) (hr : Room j X.A) (hk : k ≤ j) (hx : Passes C X E) (hg : Gl X x)
    (hdb : (x == ("__debug__" : Str)) = false := by decide) : PE X (.Call (.Name x p) [] [] pos) (tCall sp [] E tNil) := by
  obtain ⟨f, fd, ps, F, hm, kp, b⟩ := c.ex
  exact pe_call0 F (hr.mono hk) hg hm kp b .nil hx hdb
/-- a def that lets nothing out -/
theorem pe_c (c : Cal X.prog X.w X.K X.mg X.base CX0 k x sp) (hr : Room j X.A) (hk : k ≤ j) (hg : Gl X x) (ha : PA X (e :: es) t)
    (hdb : (x == ("__debug__" : Str)) = false := by decide) (he : starEach (e :: es) X.env = (false, eval e X.env) :: starEach es X.env := by rfl) (hpl : (backTo pos (starEach es X.env)).any (·.1) = false := by rfl) :
    PE X (.Call (.Name x p) (e :: es) [] pos) (tCall sp [] E0 t) := pe_cE c hr hk pass0 hg ha hdb he hpl
theorem pe_c0 (c : Cal X.prog X.w X.K X.mg X.base CX0 k x sp) (hr : Room j X.A) (hk : k ≤ j) (hg : Gl X x)
    (hdb : (x == ("__debug__" : Str)) = false := by decide) : PE X (.Call (.Name x p) [] [] pos) (tCall sp [] E0 tNil) := pe_cE0 c hr hk pass0 hg hdb
end
section
variable {X : Cx} {k j : Nat} {x : Str} {sp : Sp} {p pos : Pos} {e : Expr} {es : List Expr} {t : TA} {C : CXT} {E : L2.St → XK}
/-- a call within a try -/
theorem pe_cS (c : Cal X.prog X.w X.K X.mg X.base C k x sp) (hr : Room j X.A) (hk : k ≤ j) (hg : Gl X x) (hx : ∀ σ, PassesAt C X σ (E σ)) (ha : PA X (e :: es) t)
    (hdb : (x == ("__debug__" : Str)) = false := by decide) (he : starEach (e :: es) X.env = (false, eval e X.env) :: starEach es X.env := by rfl) (hpl : (backTo pos (starEach es X.env)).any (·.1) = false := by rfl) : PE X (.Call (.Name x p) (e :: es) [] pos) (tCallS sp E t) := by
  obtain ⟨f, fd, ps, F, hm, kp, b⟩ := c.ex
  exact pe_callS F (hr.mono hk) hg hm kp b hx ha hdb he hpl
end
theorem hu64 {A : Around} {k : Nat} (hr : Room k A) : A.units + 64 < cLine := by have := hr.un; omega
/-! ### numbers -/
theorem small64 {n : Nat} (h : n ≤ 1000000) : n ≤ sizeLine := Nat.le_trans h (by decide)
theorem small64' {n : Nat} (h : n ≤ 1000000) : n < sizeLine := Nat.lt_of_le_of_lt h (by decide)
theorem shl1 {j : Int} (h : 0 ≤ j) (h2 : j ≤ 100000) : CShl 1 j := by
  obtain ⟨n, rfl⟩ := Int.eq_ofNat_of_zero_le h
  exact shl_ok (n := 1) (by decide) (by omega)
theorem shlN {i j : Int} (hi : i.natAbs < 2 ^ 1000) (h : 0 ≤ j) (h2 : j ≤ 100000) : CShl i j := by
  obtain ⟨n, rfl⟩ := Int.eq_ofNat_of_zero_le h
  exact shl_ok (n := 1000) hi (by omega)
theorem pow_pos2 (k : Nat) : (0 : Int) < 2 ^ k := PySem.W.kbt_pos k
/-! ### heaps -/
theorem Same.new {H : Hp} {p : Addr} {o : HO} (h : H p = none) : Same H (upd H p o) := fun b x e => by
  rw [upd_ne (ne_of_none e h)]; exact e
theorem SqL.new {K : PySem.W.Frag} {H : Hp} {p : Addr} {xs : List V} : SqL K (upd H p (.lst xs)) p xs := .inl (.inl upd_same)
theorem SqT.new {K : PySem.W.Frag} {H : Hp} {p : Addr} {xs : List V} : SqT K (upd H p (.tup xs)) p xs := .inl (.inl upd_same)

/-! ### operators in the words that the readings like -/
section
variable {X : Cx}
/-- i << j, i of a usual size -/
theorem op_shlS : OpR X (binaryOp .LShift) (fun x y H Q => ∃ i j : Int, x = .int i ∧ y = .int j ∧ (i.natAbs < 2 ^ 1000 ∧ 0 ≤ j ∧ j ≤ 100000) ∧ Q (.int (i * 2 ^ j.toNat)) H) := by
  intro pins s σ H x y v u Q I rx ry h
  obtain ⟨i, j, rfl, rfl, ⟨c0, c1, c2⟩, q⟩ := h
  exact op_shlW pins s σ H _ _ v u Q I rx ry ⟨i, j, rfl, rfl, shlN c0 c1 c2, q⟩
theorem nat_small {i : Int} (h : i.natAbs ≤ 18446744073709551616) : i.natAbs < 2 ^ 1000 := Nat.lt_of_le_of_lt h (by decide +kernel)
/-- 1 << j -/
theorem op_shl1 : OpR X (binaryOp .LShift) (fun x y H Q => ∃ j : Int, x = .int 1 ∧ y = .int j ∧ (0 ≤ j ∧ j ≤ 100000) ∧ Q (.int (2 ^ j.toNat)) H) := by
  intro pins s σ H x y v u Q I rx ry h
  obtain ⟨j, rfl, rfl, ⟨c1, c2⟩, q⟩ := h
  refine op_shlW pins s σ H _ _ v u Q I rx ry ⟨1, j, rfl, rfl, shl1 c1 c2, ?_⟩
  show Q (.int (1 * 2 ^ j.toNat)) H
  rw [Int.one_mul]; exact q
end
/-- isinstance(x, T) of a value of a type of its own -/
theorem isi_int {K : PySem.W.Frag} {H : Hp} {i : Int} {Q : VK} (q : Q (.bl true) H) : rIsi K [.int i, .ty "int"] H Q := ⟨.int i, .ty "int", _, _, true, rfl, .ty _, .base (.int _), kit_ty (by decide +kernel), q⟩
theorem isi_int_bool {K : PySem.W.Frag} {H : Hp} {i : Int} {Q : VK} (q : Q (.bl false) H) : rIsi K [.int i, .ty "bool"] H Q := ⟨.int i, .ty "bool", _, _, false, rfl, .ty _, .base (.int _), kit_ty (by decide +kernel), q⟩
theorem isi_list {K : PySem.W.Frag} {H : Hp} {a : Addr} {xs : List V} {Q : VK} (h : H a = some (.lst xs)) (q : Q (.bl true) H) : rIsi K [.ref a, .ty "list"] H Q := ⟨.ref a, .ty "list", _, _, true, rfl, .ty _, .base (.lst h), kit_ty (by decide +kernel), q⟩
theorem isi_tup {K : PySem.W.Frag} {H : Hp} {a : Addr} {xs : List V} {Q : VK} (h : H a = some (.tup xs)) (q : Q (.bl true) H) : rIsi K [.ref a, .ty "tuple"] H Q := ⟨.ref a, .ty "tuple", _, _, true, rfl, .ty _, .base (.tup h), kit_ty (by decide +kernel), q⟩
theorem isi_str {K : PySem.W.Frag} {H : Hp} {z : Str} {Q : VK} (q : Q (.bl true) H) : rIsi K [.str z, .ty "str"] H Q := ⟨.str z, .ty "str", _, _, true, rfl, .ty _, .base (.str _), kit_ty (by decide +kernel), q⟩
/-! ### lists of ints -/
theorem at_ints {ns : List Int} {k : Nat} (h : k < ns.length) : atI (ns.map V.int) (k : Int) = some (.int (ns.getD k 0)) := atI_nat (by
  rw [List.getElem?_map, List.getElem?_eq_getElem h, List.getD_eq_getElem?_getD, List.getElem?_eq_getElem h]; rfl)
theorem cut_to (xs : List V) (k : Nat) : cutV xs none (some (k : Int)) = xs.take k := by
  unfold cutV
  rw [HT.sIx_nat, HT.sIx_none, List.drop_zero, Nat.sub_zero]
  rcases Nat.le_total k xs.length with h | h
  · rw [Nat.min_eq_left h]
  · rw [Nat.min_eq_right h, List.take_length, List.take_of_length_le h]
theorem cut_from (xs : List V) (k : Nat) : cutV xs (some (k : Int)) none = xs.drop k := by
  unfold cutV
  rw [HT.sIx_nat, HT.sIx_none]
  rcases Nat.le_total k xs.length with h | h
  · rw [Nat.min_eq_left h]; exact List.take_of_length_le (by rw [List.length_drop]; exact Nat.le_refl _)
  · rw [Nat.min_eq_right h, Nat.sub_self, List.take_zero, List.drop_eq_nil_of_le h]
/-! ### a reading, gone through as far as it goes by sight -/
local macro_rules | `(tactic| walk_at "side") => `(tactic| first
  | (show _ = _; rfl)
  | (show (0 : Int) < _; first | omega | exact pow_pos2 _)
  | (show (0 : Int) ≤ _; omega)
  | (show (0 : Int) ≤ _ ∧ _; constructor <;> omega)
  | (show (0 : Int) < _ ∧ _; constructor <;> omega)
  | (show (_ < _ ∧ _ < _) ∨ (_ < _ ∧ _ < _); first | exact .inl ⟨by omega, by omega⟩ | exact .inr ⟨by omega, by omega⟩))
local macro_rules | `(tactic| walk_at "loop") => `(tactic| (show ∃ W : (Nat → Nat → L2.St → Hp → Prop), _))
local macro_rules | `(tactic| walk_at "go1") => `(tactic| (fail_if_success walk_at "loop"); first
  | refine And.intro (show (_ : Int) ≤ _ by omega) ?_
  | refine ⟨_, rfl, ?_⟩
  | refine ⟨_, _, rfl, rfl, ?_⟩
  | refine ⟨_, rfl, rfl, ?_⟩
  | refine .inl ⟨_, rfl, ?_⟩
  | refine ⟨_, .ty "int", _, _, true, rfl, .ty _, .base (.int _), kit_ty (by decide +kernel), ?_⟩
  | refine ⟨_, .ty "bool", _, _, false, rfl, .ty _, .base (.int _), kit_ty (by decide +kernel), ?_⟩
  | refine ⟨_, .ty "bool", _, _, false, rfl, .ty _, .base (.str _), kit_ty (by decide +kernel), ?_⟩
  | refine ⟨_, .ty "str", _, _, true, rfl, .ty _, .base (.str _), kit_ty (by decide +kernel), ?_⟩
  | refine ⟨_, .ty "list", _, _, true, rfl, .ty _, .base (.lst (by assumption)), kit_ty (by decide +kernel), ?_⟩
  | refine ⟨_, .ty "tuple", _, _, true, rfl, .ty _, .base (.tup (by assumption)), kit_ty (by decide +kernel), ?_⟩
  | refine ⟨_, _, rfl, .inl (by assumption), ?_⟩
  | refine ⟨_, _, rfl, .inr (by assumption), ?_⟩
  | refine ⟨_, _, rfl, ?_⟩
  | refine ⟨_, _, _, _, rfl, rfl, by assumption, at_ints (by omega), ?_⟩
  | refine ⟨_, _, _, _, rfl, rfl, by assumption, rfl, ?_⟩
  | refine iteF ?_
  | refine iteT ?_
  | refine iteNS rfl ?_
  | (refine And.intro ?h1 ?h2; case h1 => first
    | walk_at "side"
    | assumption
    | (show (_ : Nat) ≤ _; omega)
    | (show (_ : Int) ≤ _; omega)
    | (show (_ : Int) < _; omega)
    | (show 0 ≤ sizeLine; decide)
    | (show 1 ≤ sizeLine; decide)
    | (show 2 ≤ sizeLine; decide)
    | (show 3 ≤ sizeLine; decide)
    | (show 4 ≤ sizeLine; decide)
    | (show (_ : Nat) ≤ _; decide)))
local macro_rules | `(tactic| walk_at "go") => `(tactic| repeat walk_at "go1")
/-! ### tests that read alone, loops -/
theorem tor_b {t u : TT} {σ : L2.St} {H : Hp} {Q : Bool → Hp → Prop} (b1 b2 : Bool) (h1 : ∀ Q, Q b1 H → t σ H Q) (h2 : ∀ Q, Q b2 H → u σ H Q) (q : Q (b1 || b2) H) : tOr t u σ H Q := by
  refine h1 _ ?_
  cases b1 with
  | true => rw [if_pos rfl]; exact q
  | false => rw [if_neg (by decide)]; exact h2 _ q
theorem tand_b {t u : TT} {σ : L2.St} {H : Hp} {Q : Bool → Hp → Prop} (b1 b2 : Bool) (h1 : ∀ Q, Q b1 H → t σ H Q) (h2 : ∀ Q, Q b2 H → u σ H Q) (q : Q (b1 && b2) H) : tAnd t u σ H Q := by
  refine h1 _ ?_
  cases b1 with
  | true => rw [if_pos rfl]; exact h2 _ q
  | false => rw [if_neg (by decide)]; exact q
theorem while_ev {c : TT} {tb : TS} {D : Ends} {σ : L2.St} {H : Hp} (Pv : L2.St → Hp → Prop) (μ : L2.St → Hp → Nat) (h0 : Pv σ H)
    (hs : ∀ σ H, Pv σ H → ∃ b : Bool, (∀ Q, Q b H → c σ H Q) ∧ (b = true → tb { D with nx := fun σ' H' => Pv σ' H' ∧ μ σ' H' < μ σ H, ct := fun σ' H' => Pv σ' H' ∧ μ σ' H' < μ σ H, bk := D.nx } σ H) ∧ (b = false → D.nx σ H)) : tWhile c tb D σ H := by
  refine ⟨fun m σ H => m = μ σ H ∧ Pv σ H, ⟨_, rfl, h0⟩, ?_⟩
  rintro m σ H ⟨rfl, p⟩
  obtain ⟨b, h1, h2, h3⟩ := hs σ H p
  refine h1 _ ?_
  cases b with
  | true => exact ⟨_, fun σ' H' ⟨p', l⟩ => ⟨_, l, rfl, p'⟩, h2 rfl⟩
  | false => exact h3 rfl
/-- the loops' bookkeeping, with what follows and what returns told apart -/
theorem for_listD {K : PySem.W.Frag} {a : Addr} {xs : List V} {g : TG} {tb : TS} {nx : L2.St → Hp → Prop} {rt : VK} {σ : L2.St} {H : Hp} (Pv : Nat → L2.St → Hp → Prop) (h0 : Pv 0 σ H) (hl : ∀ i σ H, i ≤ xs.length → Pv i σ H → SqL K H a xs)
    (hs : ∀ i x σ H, xs[i]? = some x → Pv i σ H → g x σ H fun σ2 H2 => tb { nx := Pv (i + 1), rt := rt, bk := nx, ct := Pv (i + 1) } σ2 H2) (hd : ∀ σ H, Pv xs.length σ H → nx σ H) :
    ∃ W : Nat → Nat → L2.St → Hp → Prop, (∃ m, W 0 m σ H) ∧ ∀ i m σ H, W i m σ H → ((Itl K a).stop i H ∧ nx σ H) ∨ ((Itl K a).go i H ∧ ∃ N : L2.St → Hp → Prop, (∀ σ' H', N σ' H' → ∃ m', m' < m ∧ W (i + 1) m' σ' H') ∧
      ∀ x H', (Itl K a).yld i H x H' → g x σ H' fun σ2 H2 => tb { nx := N, rt := rt, bk := nx, ct := N } σ2 H2) := for_list (D := { nx := nx, rt := rt }) Pv h0 hl hs hd
theorem for_rangeD {lo : Int} {n : Nat} {g : TG} {tb : TS} {nx : L2.St → Hp → Prop} {rt : VK} {σ : L2.St} {H : Hp} (Pv : Nat → L2.St → Hp → Prop) (h0 : Pv 0 σ H)
    (hs : ∀ i σ H, i < n → Pv i σ H → g (.int (lo + i)) σ H fun σ2 H2 => tb { nx := Pv (i + 1), rt := rt, bk := nx, ct := Pv (i + 1) } σ2 H2) (hd : ∀ σ H, Pv n σ H → nx σ H) :
    ∃ W : Nat → Nat → L2.St → Hp → Prop, (∃ m, W 0 m σ H) ∧ ∀ i m σ H, W i m σ H → ((Itr lo n).stop i H ∧ nx σ H) ∨ ((Itr lo n).go i H ∧ ∃ N : L2.St → Hp → Prop, (∀ σ' H', N σ' H' → ∃ m', m' < m ∧ W (i + 1) m' σ' H') ∧
      ∀ x H', (Itr lo n).yld i H x H' → g x σ H' fun σ2 H2 => tb { nx := N, rt := rt, bk := nx, ct := N } σ2 H2) := for_range (D := { nx := nx, rt := rt }) Pv h0 hs hd
/-! ### a comprehension that makes f of each item -/
theorem lc_map {K : PySem.W.Frag} {a : Addr} {xs : List V} {j : Nat} {te : TE} {σ : L2.St} {H1 : Hp} {D : Addr} {Qd : Hp → Prop} (f : V → V) (hD : H1 D = none) (hS : SqL K H1 a xs) (hn : xs.length ≤ 100000)
    (hs : ∀ x H Q, x ∈ xs → Same H1 H → (∀ H', Same H H' → Q (f x) H') → te ((σ.set j none).set j (some x)) H Q) (hd : ∀ H, Same H1 H → H D = some (.lst (xs.map f)) → Qd H) :
    ∃ W : Nat → Nat → Hp → Prop, (∃ m, W 0 m (upd H1 D (.lst []))) ∧ ∀ i m H, W i m H →
      ((Itl K a).stop i H ∧ Qd H) ∨ ((Itl K a).go i H ∧ ∃ Nx : Hp → Prop, (∀ H', Nx H' → ∃ m', m' < m ∧ W (i + 1) m' H') ∧ ∀ x H', (Itl K a).yld i H x H' → gName j x (wipe σ [j]) H' fun σ2 H2 => wipe σ2 [j] = wipe σ [j] ∧ tYes σ2 H2 fun b H3 =>
        if b = true then te σ2 H3 fun y H4 => ∃ acc, H4 D = some (.lst acc) ∧ acc.length < sizeLine ∧ Nx (upd H4 D (.lst (acc ++ [y]))) else Nx H3) := by
  refine lc_list (xs := xs) (fun i H => Same H1 H ∧ H D = some (.lst ((xs.take i).map f))) ⟨Same.new hD, by rw [upd_same]; rfl⟩ (fun i H _ h => h.1.seq hS) (fun i x H hx h => ?_) (fun H h => hd H h.1 (by rw [List.take_length] at h; exact h.2))
  have hi : i < xs.length := (List.getElem?_eq_some_iff.mp hx).1
  refine ⟨?_, ?_⟩
  · show (((σ.set j none).set j (some x)).set j none) = σ.set j none
    rw [List.set_set, List.set_set]
  · simp only [tYes, if_true]
    refine hs x H _ (List.mem_of_getElem? hx) h.1 fun H' s' => ?_
    refine ⟨_, s' _ _ h.2, ?_, fun b o e => ?_, ?_⟩
    · rw [List.length_map, List.length_take]; exact small64' (by omega)
    · have nb : b ≠ D := fun z => by rw [z, hD] at e; cases e
      rw [upd_ne nb]; exact s' _ _ (h.1 _ _ e)
    · rw [upd_same, List.take_add_one, hx, List.map_append]; rfl

/-! ### own errors with fields -/
/-- what the top has written of an own error's class, whose base is ValueError by some way -/
structure ExK (K : PySem.W.Frag) (mg : Str → Option Value) (x : Str) (C : Addr) : Prop where
  g : mg x = some (.ref C)
  T : OexC K C
  ga : PySem.W.findIn K (.ref C) "__getattribute__" = some (some (.builtin "BaseException.__getattribute__"))
  gg : PySem.W.findIn K (.ref C) "__getattr__" = some none
  hd : PySem.W.hasDictIn K C = true
  ca : PySem.W.findIn K (.ref C) "__class__" = some (some (.builtin "object.__class__"))
  sp : PySem.W.specialIn K (.builtin "object.__class__") "__get__" = some (some (.builtin "getset_descriptor.__get__"))
  tk : PySem.W.takesIn K (.builtin "object.__class__") = some true
  mr : PySem.W.mroIn K C (.type "object") = some true
theorem ExK.xf {K : PySem.W.Frag} {mg : Str → Option Value} {x : Str} {C : Addr} (k : ExK K mg x C) : XfC K C := ⟨k.ga, k.gg, k.T.exC, k.hd⟩
def spI1 (K : PySem.W.Frag) (C : Addr) (a : Str) : Sp := fun vs H Q _ => ∃ (s : Addr) (v : V), vs = [.ref s, v] ∧ H s = some (exo s C none) ∧
  ∀ d, H d = none → d ≠ s → Q .non (upd (upd H d (exd d [(a, v)])) s (exo s C (some d)))
def spI2 (K : PySem.W.Frag) (C : Addr) (a b : Str) : Sp := fun vs H Q _ => ∃ (s : Addr) (v u : V), vs = [.ref s, v, u] ∧ H s = some (exo s C none) ∧
  ∀ d, H d = none → d ≠ s → Q .non (upd (upd (upd H d (exd d [(a, v)])) s (exo s C (some d))) d (exd d [(b, u), (a, v)]))
theorem del_upd {H : Hp} {s d : Addr} {o o' : HO} (hs : H s = none) (hd : H d = none) (ne : d ≠ s) {K : Hp} (hK : ∀ b, b ≠ s → b ≠ d → K b = H b) : Same H (upd (del K s) d o) := fun b x e => by
  have nd : b ≠ d := ne_of_none e hd
  have ns : b ≠ s := ne_of_none e hs
  rw [upd_ne nd, del_ne ns, hK b ns nd]; exact e
/-- X(v): an error flies whose dict, new at d, holds the field; all else stands -/
theorem fly1 {K : PySem.W.Frag} {C : Addr} {a : Str} {v : V} {H : Hp} {Q : XK} (h : ∀ d Hf, Same H Hf → Hf d = some (.xd [(a, v)]) → Q (.ref C) (some d) Hf) :
    ([v] : List V).length ≤ 1000 ∧ ∀ s, H s = none → spI1 K C a (.ref s :: ([v] ++ [])) (upd H s (exo s C none))
      (fun v H2 => v = .non ∧ ∃ (d : Addr) (fs : List (Str × V)), H2 s = some (exo s C (some d)) ∧ H2 d = some (exd d fs) ∧ H d = none ∧ Q (.ref C) (some d) (upd (del H2 s) d (.xd fs))) (fun _ _ _ => False) := by
  refine ⟨by show 1 ≤ 1000; decide, fun s hs => ⟨s, v, rfl, upd_same, fun d hd ne => ⟨rfl, d, [(a, v)], upd_same, ?_, ?_, ?_⟩⟩⟩
  · rw [upd_ne ne, upd_same]
  · rw [upd_ne ne] at hd; exact hd
  · have hd' : H d = none := by rw [upd_ne ne] at hd; exact hd
    refine h d _ (del_upd (o' := .lst []) hs hd' ne fun b nb nd => ?_) upd_same
    rw [upd_ne nb, upd_ne nd, upd_ne nb]
theorem fly2 {K : PySem.W.Frag} {C : Addr} {a b : Str} {v u : V} {H : Hp} {Q : XK} (h : ∀ d Hf, Same H Hf → Hf d = some (.xd [(b, u), (a, v)]) → Q (.ref C) (some d) Hf) :
    ([v, u] : List V).length ≤ 1000 ∧ ∀ s, H s = none → spI2 K C a b (.ref s :: ([v, u] ++ [])) (upd H s (exo s C none))
      (fun v H2 => v = .non ∧ ∃ (d : Addr) (fs : List (Str × V)), H2 s = some (exo s C (some d)) ∧ H2 d = some (exd d fs) ∧ H d = none ∧ Q (.ref C) (some d) (upd (del H2 s) d (.xd fs))) (fun _ _ _ => False) := by
  refine ⟨by show 2 ≤ 1000; decide, fun s hs => ⟨s, v, u, rfl, upd_same, fun d hd ne => ⟨rfl, d, [(b, u), (a, v)], ?_, upd_same, ?_, ?_⟩⟩⟩
  · rw [upd_ne ne.symm, upd_same]
  · rw [upd_ne ne] at hd; exact hd
  · have hd' : H d = none := by rw [upd_ne ne] at hd; exact hd
    refine h d _ (del_upd (o' := .lst []) hs hd' ne fun b nb nd => ?_) upd_same
    rw [upd_ne nd, upd_ne nb, upd_ne nd, upd_ne nb]
section
variable {P : Program} {w : World} {K : PySem.W.Frag} {mg : Str → Option Value} {base : Heap} {C f : Addr} {fd : FuncData} {qual : Str}
/-- an __init__ that stores its one parameter, its two parameters, under their names -/
theorem init1 {st : Stmt} {a : Str} (F : L2.Fun K "__init__" qual st f fd) (S : FnScope ["self", a] ["self", a] (defScope st)) (T : OexC K C) (na : PySem.W.findIn K (.ref C) a = some none) {p1 p2 p3 p4 : Pos} (hb : defBody st = [.Assign [.Attribute (.Name "self" p1) a p2] (.Name a p3) p4])
    (va : Vis (defScope st) a) (vs : Vis (defScope st) "self") (d1 : (a == ("__debug__" : Str)) = false) (d2 : (a == ("__classdict__" : Str)) = false) : FnOk P w K mg base CX0 1 f fd ["self", a] (spI1 K C a) := by
  refine F.ok S (fun vs H Q E h => ?_) (fun cdv A outer s H vs Q E hr h => ?_)
  · obtain ⟨s, v, rfl, _⟩ := h; rfl
  · obtain ⟨s, v, rfl, hs, q⟩ := h
    rw [hb]
    refine ⟨_, pss_one (ps_ost (pe_var (i := 0) rfl (by assumption)) (pe_var (i := 1) rfl (by assumption) d1 d2)), ?_⟩
    exact ⟨_, rfl, _, rfl, s, C, rfl, T, na, .inl ⟨hs, fun d hd ne => q d hd ne⟩⟩
theorem init2 {st : Stmt} {a b : Str} (F : L2.Fun K "__init__" qual st f fd) (S : FnScope ["self", a, b] ["self", a, b] (defScope st)) (T : OexC K C) (na : PySem.W.findIn K (.ref C) a = some none) (nb : PySem.W.findIn K (.ref C) b = some none) {p1 p2 p3 p4 q1 q2 q3 q4 : Pos}
    (hb : defBody st = [.Assign [.Attribute (.Name "self" p1) a p2] (.Name a p3) p4, .Assign [.Attribute (.Name "self" q1) b q2] (.Name b q3) q4])
    (va : Vis (defScope st) a) (vb : Vis (defScope st) b) (vs : Vis (defScope st) "self") (d1 : (a == ("__debug__" : Str)) = false) (d2 : (a == ("__classdict__" : Str)) = false) (d3 : (b == ("__debug__" : Str)) = false) (d4 : (b == ("__classdict__" : Str)) = false) : FnOk P w K mg base CX0 1 f fd ["self", a, b] (spI2 K C a b) := by
  refine F.ok S (fun vs H Q E h => ?_) (fun cdv A outer s H vs Q E hr h => ?_)
  · obtain ⟨s, v, u, rfl, _⟩ := h; rfl
  · obtain ⟨s, v, u, rfl, hs, q⟩ := h
    rw [hb]
    refine ⟨_, pss_cons (ps_ost (pe_var (i := 0) rfl (by assumption)) (pe_var (i := 1) rfl (by assumption) d1 d2)) (pss_one (ps_ost (pe_var (i := 0) rfl (by assumption)) (pe_var (i := 2) rfl (by assumption) d3 d4))), ?_⟩
    refine ⟨_, rfl, _, rfl, s, C, rfl, T, na, .inl ⟨hs, fun d hd ne => ?_⟩⟩
    exact ⟨_, rfl, _, rfl, s, C, rfl, T, nb, .inr ⟨d, _, upd_same, by rw [upd_ne ne, upd_same], (by show 1 ≤ 900; decide), q d hd ne⟩⟩
end
/-- isinstance(e, c), e the caught error at a, of the class D, its dict at dd -/
theorem call_isX {X : Cx} {a D : Addr} {oe : Obj} {cls : Value} {d : Option Addr} {pn : List (Addr × Obj)} (hz : Zc cls d oe) (hf : ∃ vs, oe.data = .fields vs) {x : Str} (k : ExK X.K X.mg x D) : CallR (X.suite a ((a, oe) :: pn)) (.builtin "isinstance")
    (fun xs H Q => ∃ (c : V) (cv : Value) (b : Bool) (dd : Addr) (fs : List (Str × V)), xs = [.ref a, c] ∧ cls = .ref D ∧ d = some dd ∧ H dd = some (.xd fs) ∧ RelV c cv ∧ (∀ u, RelV c u → u = cv) ∧ PySem.W.kitOne X.K (.ref D) cv = some b ∧ Q (.bl b) H) := by
  intro pins s σ H xs us Q I r h
  obtain ⟨c, cv, b, dd, fs, rfl, rfl, rfl, ea, _, hcv, e, q⟩ := h
  obtain ⟨u1, u2, rfl, r1, r2⟩ := vals2 r
  cases r1
  have ec := hcv _ r2
  subst ec
  obtain ⟨hget, _⟩ := I.pin (a, oe) (List.mem_append.mpr (.inl List.mem_cons_self))
  obtain ⟨vs, hv⟩ := hf
  have hx : ObjOk X.prog X.w H s.heap dd (.xd fs) := I.hok dd _ ea
  obtain ⟨mA, ⟨od, es, ep, ho, hl⟩, hr⟩ := hx
  have J : PySem.W.InstAt s.heap a oe D (some od) := ⟨hget, hz.1, by unfold PySem.W.notCls; rw [hv] <;> rfl, by rw [hz.2]; exact ho⟩
  have hc : (PySem.W.clsIn X.K D).isSome = true := by
    have h := k.hd
    unfold PySem.W.hasDictIn at h
    cases hh : PySem.W.clsIn X.K D with
    | none => rw [hh] at h; cases h
    | some cd => rfl
  exact PySem.W.kia_one (PySem.W.kitx_exc hc k.ga k.gg k.T.exC k.ca k.sp k.tk k.mr) I.kIn J e (fun z => nomatch z) fun tk => ⟨.bl b, H, I.kept (t' := tk) fun _ _ z => z, rfl, q⟩
/-- what isinstance and an except clause ask of own classes -/
theorem kit_self {K : PySem.W.Frag} {C : Addr} : PySem.W.kitOne K (.ref C) (.ref C) = some true := by
  unfold PySem.W.kitOne
  rw [if_pos (by exact beq_self_eq_true (Value.ref C))]
theorem kit_two {K : PySem.W.Frag} {D C : Addr} {b : Bool} (ne : (Value.ref D == Value.ref C) = false) (hd : PySem.W.hasDictIn K C = true) (ht : PySem.W.typeIn K (.ref C) = some (.type "type")) (hs : PySem.W.subIn K (.ref D) (.ref C) = some b) : PySem.W.kitOne K (.ref D) (.ref C) = some b := by
  have hc : (PySem.W.clsIn K C).isSome = true := by
    unfold PySem.W.hasDictIn at hd
    cases hh : PySem.W.clsIn K C with
    | none => rw [hh] at hd; cases hd
    | some cd => rfl
  unfold PySem.W.kitOne PySem.W.kitCls
  rw [ne, if_neg (by decide)]
  show (if ((PySem.W.clsIn K C).isSome && PySem.W.typeIn K (.ref C) == some (.type "type")) = true then PySem.W.subIn K (.ref D) (.ref C) else none) = some b
  rw [hc, ht, hs]; rfl
theorem kit_ve {K : PySem.W.Frag} {D : Addr} (hs : PySem.W.subIn K (.ref D) (.type "ValueError") = some true) : PySem.W.kitOne K (.ref D) (.type "ValueError") = some true := by
  unfold PySem.W.kitOne PySem.W.kitCls
  rw [show (Value.ref D == Value.type "ValueError") = false from rfl, if_neg (by decide)]
  show (if PySem.W.kitMeta "ValueError" = true then PySem.W.subIn K (.ref D) (.type "ValueError") else none) = some true
  rw [if_pos (by decide +kernel), hs]

/-! ### written tables of the module -/
/-- a statement that is never come to -/
def tNever : TS := fun _ _ _ => False
theorem ps_never {X : Cx} {s : Stmt} : PS X s tNever := ⟨fun _ _ _ _ _ _ h => h.elim⟩
theorem sqT_same {K : PySem.W.Frag} {H H' : Hp} {a : Addr} {xs : List V} (e : Same H H') (h : SqT K H a xs) : SqT K H' a xs := by
  rcases h with (h | ⟨o, h⟩) | h
  · exact .inl (.inl (e _ _ h))
  · exact .inl (.inr ⟨o, e _ _ h⟩)
  · exact .inr h
/-- a comprehension over a tuple -/
theorem lc_mapT {K : PySem.W.Frag} {a : Addr} {xs : List V} {j : Nat} {te : TE} {σ : L2.St} {H1 : Hp} {D : Addr} {Qd : Hp → Prop} (f : V → V) (hD : H1 D = none) (hS : SqT K H1 a xs) (hn : xs.length ≤ 100000)
    (hs : ∀ x H Q, x ∈ xs → Same H1 H → (∀ H', Same H H' → Q (f x) H') → te ((σ.set j none).set j (some x)) H Q) (hd : ∀ H, Same H1 H → H D = some (.lst (xs.map f)) → Qd H) :
    ∃ W : Nat → Nat → Hp → Prop, (∃ m, W 0 m (upd H1 D (.lst []))) ∧ ∀ i m H, W i m H →
      ((Itt K a).stop i H ∧ Qd H) ∨ ((Itt K a).go i H ∧ ∃ Nx : Hp → Prop, (∀ H', Nx H' → ∃ m', m' < m ∧ W (i + 1) m' H') ∧ ∀ x H', (Itt K a).yld i H x H' → gName j x (wipe σ [j]) H' fun σ2 H2 => wipe σ2 [j] = wipe σ [j] ∧ tYes σ2 H2 fun b H3 =>
        if b = true then te σ2 H3 fun y H4 => ∃ acc, H4 D = some (.lst acc) ∧ acc.length < sizeLine ∧ Nx (upd H4 D (.lst (acc ++ [y]))) else Nx H3) := by
  refine lc_tup (xs := xs) (fun i H => Same H1 H ∧ H D = some (.lst ((xs.take i).map f))) ⟨Same.new hD, by rw [upd_same]; rfl⟩ (fun i H _ h => sqT_same h.1 hS) (fun i x H hx h => ?_) (fun H h => hd H h.1 (by rw [List.take_length] at h; exact h.2))
  have hi : i < xs.length := (List.getElem?_eq_some_iff.mp hx).1
  refine ⟨?_, ?_⟩
  · show (((σ.set j none).set j (some x)).set j none) = σ.set j none
    rw [List.set_set, List.set_set]
  · simp only [tYes, if_true]
    refine hs x H _ (List.mem_of_getElem? hx) h.1 fun H' s' => ?_
    refine ⟨_, s' _ _ h.2, ?_, fun b o e => ?_, ?_⟩
    · rw [List.length_map, List.length_take]; exact small64' (by omega)
    · have nb : b ≠ D := fun z => by rw [z, hD] at e; cases e
      rw [upd_ne nb]; exact s' _ _ (h.1 _ _ e)
    · rw [upd_same, List.take_add_one, hx, List.map_append]; rfl
theorem for_zipD {K : PySem.W.Frag} {a b : Addr} {xs ys : List V} {g : TG} {tb : TS} {nx : L2.St → Hp → Prop} {rt : VK} {σ : L2.St} {H : Hp} (hl : xs.length = ys.length) (Pv : Nat → L2.St → Hp → Prop) (h0 : Pv 0 σ H) (hq : ∀ i σ H, Pv i σ H → SqT K H a xs ∧ SqT K H b ys)
    (hs : ∀ (i : Nat) (x y : V) (T : Addr) (σ : L2.St) (H : Hp), xs[i]? = some x → ys[i]? = some y → Pv i σ H → H T = none → g (.ref T) σ (upd H T (.tup [x, y])) fun σ2 H2 => tb { nx := Pv (i + 1), rt := rt, bk := nx, ct := Pv (i + 1) } σ2 H2) (hd : ∀ σ H, Pv xs.length σ H → nx σ H) :
    ∃ W : Nat → Nat → L2.St → Hp → Prop, (∃ m, W 0 m σ H) ∧ ∀ i m σ H, W i m σ H → ((RZ.ItzT K a b).stop i H ∧ nx σ H) ∨ ((RZ.ItzT K a b).go i H ∧ ∃ N : L2.St → Hp → Prop, (∀ σ' H', N σ' H' → ∃ m', m' < m ∧ W (i + 1) m' σ' H') ∧
      ∀ x H', (RZ.ItzT K a b).yld i H x H' → g x σ H' fun σ2 H2 => tb { nx := N, rt := rt, bk := nx, ct := N } σ2 H2) := RZ.for_zipT (D := { nx := nx, rt := rt }) hl Pv h0 hq hs hd
/-- a written tuple of texts -/
structure TupS (K : PySem.W.Frag) (a : Addr) (zs : List Str) : Prop where
  ex : ∃ (o : Obj) (its : Array Value) (n : Nat), K.lookup a = some o ∧ o.cls = .type "tuple" ∧ o.data = .seq its n ∧ its.size ≤ sizeLine ∧ Vals (zs.map V.str) its.toList
def chkS : List Str → List Value → Bool
  | [], [] => true
  | z :: zs, .str y _ :: us => decide (z = y) && chkS zs us
  | _, _ => false
theorem vals_strs : ∀ (zs : List Str) (us : List Value), chkS zs us = true → Vals (zs.map V.str) us
  | [], [], _ => .nil
  | z :: zs, u :: us, h => by
    cases u with
    | str y t =>
      have h' : (decide (z = y) && chkS zs us) = true := h
      rw [Bool.and_eq_true] at h'
      have r : RelV (V.str z) (.str y t) := by
        rw [of_decide_eq_true h'.1]
        exact ⟨t, rfl⟩
      exact .cons r (vals_strs zs us h'.2)
    | _ => cases h
  | [], _ :: _, h => nomatch h
  | _ :: _, [], h => nomatch h
theorem TupS.sq {K : PySem.W.Frag} {a : Addr} {zs : List Str} {H : Hp} (t : TupS K a zs) : SqT K H a (zs.map V.str) := .inr t.ex
def Rows (P : Params) : List DictEntry → List (Str × V) → Prop
  | [], [] => True
  | e :: r, (x, v) :: q => (∃ t, e.key = .str x t) ∧ e.hash = PyData.keyHash P x ∧ RelV v e.val ∧ Rows P r q
  | _, _ => False
/-- a written dict with text keys -/
structure DicV (K : PySem.W.Frag) (w : World) (a : Addr) (kvs : List (Str × V)) : Prop where
  ex : ∃ (es : Array DictEntry) (n : Nat), K.lookup a = some ⟨.type "dict", none, .dict es n, #[]⟩ ∧ (a == sysModules) = false ∧ Rows w.params es.toList kvs
def valS (kvs : List (Str × V)) (z : Str) : Option V := (kvs.find? fun p => decide (p.1 = z)).map (·.2)
theorem Rows.lit {P : Params} : ∀ {l : List DictEntry} {q : List (Str × V)}, Rows P l q → PySem.W.KeysLit P l
  | [], _, _ => True.intro
  | e :: r, [], h => nomatch h
  | e :: r, (x, v) :: q, ⟨⟨t, h1⟩, h2, _, h4⟩ => ⟨⟨x, t, h1, h2⟩, h4.lit⟩
theorem Rows.noref {P : Params} : ∀ {l : List DictEntry} {q : List (Str × V)}, Rows P l q → l.any (·.refKey) = false
  | [], _, _ => rfl
  | e :: r, [], h => nomatch h
  | e :: r, (x, v) :: q, ⟨⟨t, h1⟩, _, _, h4⟩ => by
    rw [List.any_cons, h4.noref, Bool.or_false]
    unfold DictEntry.refKey
    rw [h1]
theorem isStrOf_eq (z x : Str) (t : Tok) : Value.isStrOf z (.str x t) = decide (x = z) := by
  by_cases c : x = z
  · rw [decide_eq_true c, c]; simp [Value.isStrOf]
  · rw [decide_eq_false c]; simp [Value.isStrOf, c, Ne.symm c]
theorem Rows.find {P : Params} (z : Str) : ∀ {l : List DictEntry} {q : List (Str × V)}, Rows P l q → (match valS q z with
    | none => l.find? (·.key.isStr z) = none
    | some v => ∃ e, l.find? (·.key.isStr z) = some e ∧ RelV v e.val)
  | [], [], _ => rfl
  | [], _ :: _, h => nomatch h
  | e :: r, [], h => nomatch h
  | e :: r, (x, v) :: q, ⟨⟨t, h1⟩, _, h3, h4⟩ => by
    have ek : e.key.isStr z = decide (x = z) := by
      rw [h1, PySem.W.isStr_of]
      show Value.isStrOf z (.str x t) = _
      exact isStrOf_eq z x t
    have ih := h4.find z
    unfold valS at ih ⊢
    rw [List.find?_cons, List.find?_cons, ek]
    by_cases c : x = z
    · rw [decide_eq_true c]
      exact ⟨e, rfl, h3⟩
    · rw [decide_eq_false c]
      exact ih
theorem DicV.kd {K : PySem.W.Frag} {w : World} {a : Addr} {kvs : List (Str × V)} (d : DicV K w a kvs) : ∃ es n, KDict K w a es n := by
  obtain ⟨es, n, h1, h2, h3⟩ := d.ex
  exact ⟨es, n, h1, h3.lit, h2⟩
theorem DicV.ns {K : PySem.W.Frag} {w : World} {a : Addr} {kvs : List (Str × V)} (d : DicV K w a kvs) (z : Str) : match valS kvs z with
    | none => PySem.W.nsIn K a z = some none
    | some v => ∃ u, PySem.W.nsIn K a z = some (some u) ∧ RelV v u := by
  obtain ⟨es, n, h1, h2, h3⟩ := d.ex
  have h := h3.find z
  unfold PySem.W.nsIn
  rw [h1]
  split
  · rename_i e
    rw [e] at h
    simp only [h, h3.noref]
    rfl
  · rename_i v e
    rw [e] at h
    obtain ⟨en, h5, h6⟩ := h
    simp only [h5]
    exact ⟨_, rfl, h6⟩
section
variable {X : Cx} {d : Addr} {kvs : List (Str × V)}
def rInT (d : Addr) (kvs : List (Str × V)) : R2 := fun x y H Q => ∃ z : Str, x = .str z ∧ y = .ref d ∧ Q (.bl (valS kvs z).isSome) H
theorem op_inT (D : DicV X.K X.w d kvs) : OpR X (compareOp .In) (rInT d kvs) := by
  intro pins s σ H x y v u Q I rx ry h
  obtain ⟨z, rfl, rfl, q⟩ := h
  obtain ⟨es, n, k⟩ := D.kd
  have hn := D.ns z
  cases e : valS kvs z with
  | none =>
    rw [e] at hn q
    exact op_in_kd k pins s σ H _ _ v u Q I rx ry ⟨z, none, rfl, rfl, hn, q⟩
  | some v0 =>
    rw [e] at hn q
    obtain ⟨u0, hn, _⟩ := hn
    exact op_in_kd k pins s σ H _ _ v u Q I rx ry ⟨z, some u0, rfl, rfl, hn, q⟩
def rIxT (d : Addr) (kvs : List (Str × V)) : R2 := fun x y H Q => ∃ (z : Str) (v : V), x = .ref d ∧ y = .str z ∧ valS kvs z = some v ∧ Q v H
theorem ix_T (D : DicV X.K X.w d kvs) : IxR X (rIxT d kvs) := by
  intro value slice pins s σ H x y v u Q I rx ry h hs
  obtain ⟨z, v0, rfl, rfl, e, q⟩ := h
  have hn := D.ns z
  rw [e] at hn
  obtain ⟨u0, hn, hr⟩ := hn
  obtain ⟨es, n, h1, h2, h3⟩ := D.ex
  exact ix_kdict value slice pins s σ H (.ref d) (.str z) v u Q I rx ry ⟨d, z, v0, rfl, rfl, ⟨es, n, u0, h1, h3.lit, hn, hr⟩, q⟩ hs
def tGet2T (d : Addr) (kvs : List (Str × V)) (td ty tx : TE) : TE := fun σ H Q => td σ H fun x H1 => x = .ref d ∧ ty σ H1 fun y H2 => tx σ H2 fun v H3 => ∃ z : Str, y = .str z ∧ Q ((valS kvs z).getD v) H3
theorem pe_get2T {o e f : Expr} {apos cpos : Pos} {td ty tx : TE} (D : DicV X.K X.w d kvs) (ho : PE X o td) (he : PE X e ty) (hf : PE X f tx) (m : M2 X o "get" apos e f cpos) : PE X (.Call (.Attribute o "get" apos) [e, f] [] cpos) (tGet2T d kvs td ty tx) := by
  refine ⟨fun pins s σ H Q I h => ?_⟩
  refine wpAny_Call_method m.base m.few m.line PySem.F.plainAttrs_dict PySem.F.slot_dict_get PySem.F.type_dict_get (thn (ho.run pins s σ H _ I h) fun u s1 ⟨x, H1, I1, rx, ex, q1⟩ => ?_)
  subst ex
  obtain rfl : u = Value.ref d := rx
  obtain ⟨es, n, h1, h2, h3⟩ := D.ex
  have dd : ∀ {pins : List (Addr × Obj)} {σ : L2.St} {H : Hp} {s : Shared}, Inv X pins σ H s → _ := fun I => PySem.W.mapOf_K (prog := X.prog) (w := X.w) I.kIn h1 h3.lit
  refine ⟨(dd I1).typeIs, fun b q => ?_, ?_⟩
  · cases q
    obtain ⟨ob, _, _, hg, hx, _⟩ := id (dd I1)
    exact ⟨ob, hg, hx.2.1⟩
  rw [m.trees]
  refine Calls.callWith_builtin rfl (Calls.evalArgs_plain (Calls.spliced_cons (thn (he.run pins s1 σ H1 _ I1 q1) fun iv s2 ⟨y, H2, I2, ry, q2⟩ =>
    Calls.spliced_cons (thn (hf.run pins s2 σ H2 _ I2 q2) fun fv s3 ⟨v, H3, I3, rv, z, ez, q3⟩ => Calls.spliced_nil ?_))))
  subst ez
  obtain ⟨t, rfl⟩ := ry
  refine call_meetsIn PySem.F.slot_dict_get (dd I3).typeIs PySem.F.entry_dict_get (PySem.F.args_dict_get_3 _ _ _) (meets_dict_get_default (strKind X.prog X.w) d (strKind_is X.prog X.w z t) h2 fv) ⟨_, dd I3, ?_⟩
  have hn := D.ns z
  refine ⟨(valS kvs z).getD v, H3, I3.tok _, ?_, q3⟩
  cases e : valS kvs z with
  | none =>
    rw [e] at hn
    rw [PySem.W.find_K h1 hn]
    exact rv
  | some v0 =>
    rw [e] at hn
    obtain ⟨u0, hn, hr⟩ := hn
    rw [PySem.W.find_K h1 hn]
    exact hr
/-- a call of a local that holds one of several defs; each may let out what X.xe takes -/
def tCallT (i : Nat) (S : Addr → Sp → Prop) (E : XK) (t : TA) : TE := fun σ H Q => ∃ f sp, σ[i]? = some (some (.ref f)) ∧ S f sp ∧ t σ H fun vs H1 => sp vs H1 Q E
theorem pe_callT {S : Addr → Sp → Prop} {C : CXT} {E : XK} {k j : Nat} {i : Nat} {x : Str} {p pos : Pos} {es : List Expr} {t : TA} (A : ∀ f sp, S f sp → ∃ (y : Str), Cal X.prog X.w X.K X.mg X.base C k y sp ∧ X.mg y = some (.ref f)) (hr : Room j X.A) (hk : k ≤ j) (hN : X.N[i]? = some x) (hv : Vis X.env.scope x)
    (hx : Passes C X E) (ha : PA X (e :: es) t)
    (hdb : (x == ("__debug__" : Str)) = false := by decide) (hcd : (x == ("__classdict__" : Str)) = false := by decide)
    (he : starEach (e :: es) X.env = (false, eval e X.env) :: starEach es X.env := by rfl) (hpl : (backTo pos (starEach es X.env)).any (·.1) = false := by rfl) : PE X (.Call (.Name x p) (e :: es) [] pos) (tCallT i S E t) := by
  refine ⟨fun pins s σ H Q I h => ?_⟩
  obtain ⟨f, sp, hs, hS, ht⟩ := h
  obtain ⟨y, c, hy⟩ := A f sp hS
  obtain ⟨f', fd, ps, F, hm, kp, b⟩ := c.ex
  obtain rfl : f' = f := by rw [hm] at hy; cases hy; rfl
  refine (pe_callL (i := i) (f := f') (sp := sp) (dvs := []) (E := E) F (hr.mono hk) hN hv kp b .nil hx ha hdb hcd he hpl).run pins s σ H Q I ⟨hs, ?_⟩
  have e0 : (fun (vs : List V) (H1 : Hp) => sp (vs ++ []) H1 Q E) = fun vs H1 => sp vs H1 Q E := by
    funext vs H1
    rw [List.append_nil]
  rw [e0]
  exact ht
end

/-! ### a written dict of the module with int keys: what it holds, get, items -/
def RowsI : List DictEntry → List (Int × V) → Prop
  | [], [] => True
  | e :: r, (i, v) :: q => (∃ t, e.key = .int i t) ∧ e.hash = hashInt i ∧ RelV v e.val ∧ RowsI r q
  | _, _ => False
structure DicI (K : PySem.W.Frag) (a : Addr) (kvs : List (Int × V)) : Prop where
  ex : ∃ (es : Array DictEntry) (n : Nat), K.lookup a = some ⟨.type "dict", none, .dict es n, #[]⟩ ∧ (a == sysModules) = false ∧ RowsI es.toList kvs
  nd : (kvs.map (·.1)).Nodup
def keyed (kvs : List (Int × V)) : List (Key × V) := kvs.map fun p => (.inl p.1, p.2)
theorem RowsI.read {prog : Program} {w : World} : ∀ {l : List DictEntry} {q : List (Int × V)}, RowsI l q → ∃ vs : List (Key × Value), KV (keyed q) vs ∧ Pairs (mixKind prog w) l vs ∧ vs.map (·.1) = (keyed q).map (·.1) ∧ l.length = q.length ∧ ∀ e ∈ l, ∃ k, keyIs k e.key = true ∧ e.hash = keyH w k
  | [], [], _ => ⟨[], .nil, .nil, rfl, rfl, fun _ h => nomatch h⟩
  | [], _ :: _, h => nomatch h
  | _ :: _, [], h => nomatch h
  | e :: r, (i, v) :: q, ⟨⟨t, hk⟩, hh, hv, hr⟩ => by
    obtain ⟨vs, a, b, c, d, f⟩ := hr.read (prog := prog) (w := w)
    have ki : keyIs (.inl i) e.key = true := by rw [hk]; exact keyIs_int i t
    refine ⟨(.inl i, e.val) :: vs, .cons ⟨rfl, hv⟩ a, ?_, ?_, by rw [List.length_cons, List.length_cons, d], fun e' he => ?_⟩
    · exact .cons ki rfl b
    · show _ :: vs.map (·.1) = _ :: (keyed q).map (·.1)
      rw [c]
    · rcases List.mem_cons.mp he with rfl | he
      · exact ⟨_, ki, hh⟩
      · exact f e' he
def strsI (z : List (Int × Str)) : List (Int × V) := z.map fun p => (p.1, .str p.2)
def lookI (z : List (Int × Str)) (c : Int) : Option Str := (z.find? fun p => decide (p.1 = c)).map (·.2)
def optS : Option Str → V
  | none => .non
  | some z => .str z
theorem valV_strs (c : Int) : ∀ z : List (Int × Str), (valV (keyed (strsI z)) (.inl c)).getD .non = optS (lookI z c)
  | [] => rfl
  | (k, x) :: r => by
    have ih := valV_strs c r
    show (((((.inl k : Key), V.str x) :: keyed (strsI r)).find? fun kv => decide (kv.1 = .inl c)).map (·.2)).getD .non = optS ((((k, x) :: r).find? fun p => decide (p.1 = c)).map (·.2))
    rw [List.find?_cons, List.find?_cons]
    by_cases e : k = c
    · rw [decide_eq_true (congrArg Sum.inl e), decide_eq_true e]; rfl
    · rw [decide_eq_false (fun h => e (Sum.inl.inj h)), decide_eq_false e]; exact ih
section
variable {X : Cx} {pins : List (Addr × Obj)} {σ : L2.St} {H : Hp} {s : Shared} {d : Addr} {kvs : List (Int × V)}
theorem DicI.facts (D : DicI X.K d kvs) (I : Inv X pins σ H s) : ∃ (ob : Obj) (es : Array DictEntry) (n : Nat) (vs : List (Key × Value)), X.K.lookup d = some ob ∧ s.heap.get? d = some ob ∧ ob.data = .dict es n ∧ es.size = kvs.length ∧ KV (keyed kvs) vs ∧ (d == sysModules) = false ∧ s.heap.DictAt (mixKind X.prog X.w) d vs n := by
  obtain ⟨es, n, hl, hs, hr⟩ := D.ex
  obtain ⟨vs, a, b, c, e, f⟩ := hr.read (prog := X.prog) (w := X.w)
  have hg := I.kIn d _ hl
  refine ⟨_, es, n, vs, hl, hg, rfl, by rw [← e, Array.length_toList], a, hs, _, es, hg, ⟨rfl, rfl, rfl⟩, rfl, fun z hz => f z (Array.mem_toList_iff.mpr hz), b, ?_⟩
  rw [c]
  show ((kvs.map fun p => ((.inl p.1 : Key), p.2)).map (·.1)).Nodup
  rw [List.map_map]
  exact List.pairwise_map.mpr ((List.pairwise_map.mp D.nd).imp fun ne z => ne (Sum.inl.inj z))
/-- the pairs of a written dict, each a new tuple -/
def ItW (kvs : List (Int × V)) : It :=
  ⟨fun i _ => i < kvs.length, fun i H x H' => ∃ T k v, kvs[i]? = some (k, v) ∧ x = .ref T ∧ H T = none ∧ H' = upd H T (.tup [.int k, v]), fun i _ => kvs.length ≤ i⟩
theorem keyed_at {i k : Nat} {m : Int} {v : V} (h : kvs[i]? = some (m, v)) : (keyed kvs)[i]? = some (.inl m, v) := by
  unfold keyed
  rw [List.getElem?_map, h]; rfl
theorem turnW {P : Program} {w : World} {K : PySem.W.Frag} {elts : List Expr} {kk : Nat} {tpos : Pos} {ob : Obj} {es : Array DictEntry} {n : Nat} (it : Addr) (D : DicI K d kvs) (hl : K.lookup d = some ob) (hod : ob.data = .dict es n) :
    Turn P w K (.Tuple elts kk tpos) (ItW kvs) [it] it (fun i h => ∃ a b, IsItemIter h it d i kvs.length n a b) where
  mem := List.mem_singleton.mpr rfl
  obj := by
    rintro i h ⟨a, b, e⟩ c hc
    rw [List.mem_singleton.mp hc]
    exact ⟨_, e, fun v z => nomatch z⟩
  keep := by
    rintro i h h' ⟨a, b, e⟩ k
    exact ⟨a, b, k it (List.mem_singleton.mpr rfl) _ e⟩
  item := by
    intro X e1 e2 e3 calm i pins s σ H E I free st lt
    subst e1 e2 e3
    obtain ⟨a, b, st⟩ := st
    obtain ⟨ob', es', n', vs, l', g', d', z', kv, hs, at'⟩ := D.facts I
    rw [hl] at l'
    cases l'
    rw [hod] at d'
    cases d'
    have lv : kvs.length = vs.length := by
      have q : (keyed kvs).length = vs.length := Paired.length kv
      unfold keyed at q
      rw [List.length_map] at q
      exact q
    obtain ⟨⟨m, v⟩, hm⟩ : ∃ p, kvs[i]? = some p := ⟨kvs[i], List.getElem?_eq_getElem lt⟩
    obtain ⟨u, hu, ru⟩ := kv_get kv (keyed_at (k := 0) hm)
    rw [lv] at st
    have small : it < s.heap.objs.size := Heap.lt_size st
    refine wpAny_pyNext_items_item st at' hu fun key h1 hk out tup size old => ⟨_, rfl, wpAny_letOwnedTupleGo_items (s := { s with heap := h1 }) out fun h2 next but => ?_⟩
    have tup2 := (but.2 _ (Nat.ne_of_gt small)).trans tup
    have rk : RelV (V.int m) key := relV_key (k := .inl m) hk
    have new : ObjOk X.prog X.w (upd H s.heap.objs.size (.tup [.int m, v])) h2 s.heap.objs.size (.tup [.int m, v]) := ⟨by show 2 ≤ sizeLine; decide, [key, u], .cons rk (.cons ru .nil), ⟨_, tup2, rfl, _, rfl⟩⟩
    have I2 : Inv X pins σ (upd H s.heap.objs.size (.tup [.int m, v])) { s with heap := h2 } :=
      I.turnedNew (t' := s.toks) (ch := [it]) (fun c oc nc ec => (but.2 c (fun z => nc (List.mem_singleton.mpr z))).trans (old c oc (fun z => nc (List.mem_singleton.mpr z)) ec)) free (Nat.le_refl _) new
    refine ⟨.ref s.heap.objs.size, _, I2, rfl, ⟨_, m, v, hm, rfl, I.hok.fresh (Nat.le_refl _), rfl⟩, ⟨key, u, ?_⟩, fun c hc => ?_⟩
    · rw [lv]; exact next
    · rw [List.mem_singleton.mp hc, upd_ne (Nat.ne_of_lt small)]
      exact (free it (List.mem_singleton.mpr rfl)).1
  done := by
    intro X e1 e2 e3 calm i pins s σ H E I free st le
    subst e1 e2 e3
    obtain ⟨a, b, st⟩ := st
    obtain ⟨ob', es', n', vs, l', g', d', z', kv, hs, at'⟩ := D.facts I
    rw [hl] at l'
    cases l'
    rw [hod] at d'
    cases d'
    have lv : kvs.length = vs.length := by
      have q : (keyed kvs).length = vs.length := Paired.length kv
      unfold keyed at q
      rw [List.length_map] at q
      exact q
    rw [lv] at st
    obtain ⟨f0, f1, f2, f3, f4, f5⟩ := free it (List.mem_singleton.mpr rfl)
    have le' : vs.length ≤ i := lv ▸ le
    exact wpAny_pyNext_items_end (I.ok.hd calm) st at' (List.getElem?_eq_none le') fun h1 but => ⟨rfl, I.turned (t' := s.toks) (fun c oc nc ec => but c oc nc ec) f0 f1 f3 f4 f5⟩
  self := by
    rintro A i s Q E ⟨a, b, e⟩ h
    exact PySem.W.kcp_self e h
/-- for k, v in D.items(), D a written dict -/
def iItemsW (d : Addr) (kvs : List (Int × V)) (td : TE) : TI := fun σ H R => td σ H fun x H1 => x = .ref d ∧ R (ItW kvs) H1
theorem pi_itemsW {elts : List Expr} {kk : Nat} {tpos : Pos} {e : Expr} {td : TE} {apos cpos : Pos} (D : DicI X.K d kvs) (he : PE X e td) (hbase : attributeBase e "items" X.env (eval e X.env) = eval e X.env := by rfl) (hline : (apos.endLine == cpos.line) = true := by rfl) :
    PI X (.Tuple elts kk tpos) (.Call (.Attribute e "items" apos) [] [] cpos) (iItemsW d kvs td) := by
  refine ⟨fun pins s σ H R I h => wpAny_Call_method (T := "dict") (id := "dict.items") hbase rfl hline F.plainAttrs_dict F.slot_dict_items F.type_dict_items (thn (he.run pins s σ H _ I h) fun u s1 ⟨x, H1, I1, rx, ex, q⟩ => ?_)⟩
  subst ex
  obtain rfl : u = Value.ref d := rx
  obtain ⟨ob, es, n, vs, hl, hg, hod, hsz, kv, hs, hm⟩ := D.facts I1
  have lv : kvs.length = vs.length := by
    have q : (keyed kvs).length = vs.length := Paired.length kv
    unfold keyed at q
    rw [List.length_map] at q
    exact q
  refine ⟨hm.dictOf.typeIs, hm.dictOf.mapOf.noDict, ?_⟩
  have I2 : Inv X pins σ H1 { s1 with heap := s1.heap.push { cls := .type "dict_items", data := .fields #[.ref d] } } := I1.kept (t' := s1.toks) fun b ob q => Heap.get?_push_of_some _ q
  have fin : wpAny (model X.prog X.w) X.A (pyIter (.ref s1.heap.objs.size)) (PIE X pins σ (.Tuple elts kk tpos) R) X.xe { s1 with heap := s1.heap.push { cls := .type "dict_items", data := .fields #[.ref d] } } := by
    refine wpAny_pyIter_items (d := d) (knd := mixKind X.prog X.w) ⟨_, Heap.get?_push_size _ rfl, rfl, rfl⟩ (hm.push _) (pi_one (tk := s1.toks) I2 _ (turnW _ D hl hod) ⟨.none, .none, ?_⟩ q)
    rw [lv]
    exact Heap.get?_push_size _ rfl
  exact method_meetsIn F.slot_dict_items F.entry_dict_items rfl (PySem.evalArgs_none ⟨rfl, hm.dictOf.typeIs, F.args_dict_items_1 _, _, meets_dict_items (mixKind X.prog X.w) d hs, ⟨vs, hm.dictOf⟩, fin⟩)
/-- D.get(i), D a written dict -/
def tGet1W (d : Addr) (kvs : List (Int × V)) (td ty : TE) : TE := fun σ H Q => td σ H fun x H1 => x = .ref d ∧ ty σ H1 fun y H2 => ∃ i : Int, y = .int i ∧ Q ((valV (keyed kvs) (.inl i)).getD .non) H2
theorem pe_get1W {o e : Expr} {apos cpos : Pos} {td ty : TE} (D : DicI X.K d kvs) (ho : PE X o td) (he : PE X e ty) (m : M1 X o "get" apos e cpos) : PE X (.Call (.Attribute o "get" apos) [e] [] cpos) (tGet1W d kvs td ty) := by
  refine ⟨fun pins s σ H Q I h => wpAny_Call_method m.base m.few m.line PySem.F.plainAttrs_dict PySem.F.slot_dict_get PySem.F.type_dict_get (thn (ho.run pins s σ H _ I h) fun u s1 ⟨x, H1, I1, rx, ex, q1⟩ => ?_)⟩
  subst ex
  obtain rfl : u = Value.ref d := rx
  obtain ⟨ob, es, n, vs, hl, hg, hod, hsz, kv, hs, hm⟩ := D.facts I1
  refine ⟨hm.dictOf.typeIs, hm.dictOf.mapOf.noDict, ?_⟩
  rw [m.trees]
  refine Calls.callWith_builtin rfl (Calls.evalArgs_plain (Calls.spliced_cons (thn (he.run pins s1 σ H1 _ I1 q1) fun iv s2 ⟨y, H2, I2, ry, i, ey, q2⟩ => Calls.spliced_nil ?_)))
  subst ey
  obtain ⟨t, rfl⟩ := ry
  obtain ⟨ob, es, n, vs, hl, hg, hod, hsz, kv, hs, hm⟩ := D.facts I2
  exact call_meetsIn PySem.F.slot_dict_get hm.dictOf.typeIs PySem.F.entry_dict_get (PySem.F.args_dict_get_2 _ _) (meets_dict_get (mixKind X.prog X.w) (k := (.inl i : Key)) d (keyIs_int i t) hs) ⟨_, hm.dictOf.mapOf, ⟨(valV (keyed kvs) (.inl i)).getD .non, H2, I2.tok _, (kv.val (.inl i)).getD (show RelV .non Value.none from rfl), q2⟩⟩
end
/-- a name that the module binds to an int -/
theorem pe_gint {X : Cx} {x : Str} {p : Pos} {i : Int} (hg : Gl X x) (hm : ∃ t, X.mg x = some (.int i t)) (hdb : (x == ("__debug__" : Str)) = false := by decide) : PE X (.Name x p) (tC (.int i)) := by
  obtain ⟨t, h⟩ := hm
  exact pe_glob hg h ⟨t, rfl⟩ hdb

theorem for_itemsW {kvs : List (Int × V)} {g : TG} {tb : TS} {nx : L2.St → Hp → Prop} {rt : VK} {σ : L2.St} {H : Hp} (Pv : Nat → L2.St → Hp → Prop) (h0 : Pv 0 σ H)
    (hs : ∀ (i : Nat) (k : Int) (v : V) (T : Addr) (σ : L2.St) (H : Hp), kvs[i]? = some (k, v) → Pv i σ H → H T = none → g (.ref T) σ (upd H T (.tup [.int k, v])) fun σ2 H2 => tb { nx := Pv (i + 1), rt := rt, bk := nx, ct := Pv (i + 1) } σ2 H2) (hd : ∀ σ H, Pv kvs.length σ H → nx σ H) :
    ∃ W : Nat → Nat → L2.St → Hp → Prop, (∃ m, W 0 m σ H) ∧ ∀ i m σ H, W i m σ H → ((ItW kvs).stop i H ∧ nx σ H) ∨ ((ItW kvs).go i H ∧ ∃ N : L2.St → Hp → Prop, (∀ σ' H', N σ' H' → ∃ m', m' < m ∧ W (i + 1) m' σ' H') ∧
      ∀ x H', (ItW kvs).yld i H x H' → g x σ H' fun σ2 H2 => tb { nx := N, rt := rt, bk := nx, ct := N } σ2 H2) := by
  refine ⟨fun i m σ H => m = kvs.length - i ∧ i ≤ kvs.length ∧ Pv i σ H, ⟨_, rfl, Nat.zero_le _, h0⟩, ?_⟩
  rintro i m σ H ⟨rfl, hi, p⟩
  by_cases lt : i < kvs.length
  · refine .inr ⟨lt, Pv (i + 1), fun σ' H' p' => ⟨kvs.length - (i + 1), by omega, rfl, lt, p'⟩, ?_⟩
    rintro x H' ⟨T, k, v, hk, rfl, hT, rfl⟩
    exact hs i k v T σ H hk p hT
  · have e : i = kvs.length := by omega
    subst e
    exact .inl ⟨Nat.le_refl _, hd σ H p⟩
theorem strsI_at {z : List (Int × Str)} {i : Nat} {k : Int} {v : V} (h : (strsI z)[i]? = some (k, v)) : ∃ x, z[i]? = some (k, x) ∧ v = .str x := by
  unfold strsI at h
  rw [List.getElem?_map] at h
  cases e : z[i]? with
  | none => rw [e] at h; cases h
  | some p => rw [e] at h; cases h; exact ⟨_, rfl, rfl⟩
/-- the code of a name, by its place in a table -/
def codeI (z : List (Int × Str)) (n : Str) : Option Int := (z.find? fun p => decide (p.2 = n)).map (·.1)
theorem codeI_hit {z : List (Int × Str)} {n : Str} {i : Nat} {k : Int} (h : z[i]? = some (k, n)) (no : ∀ p ∈ z.take i, ¬ p.2 = n) : codeI z n = some k := by
  unfold codeI
  have e : z = z.take i ++ (k, n) :: z.drop (i + 1) := by
    have hi := (List.getElem?_eq_some_iff.mp h)
    obtain ⟨hi, he⟩ := hi
    rw [← he, List.getElem_cons_drop, List.take_append_drop]
  rw [e, List.find?_append, List.find?_eq_none.mpr (fun p hp => by simpa using no p hp)]
  simp
theorem codeI_none {z : List (Int × Str)} {n : Str} (no : ∀ p ∈ z, ¬ p.2 = n) : codeI z n = none := by
  unfold codeI
  rw [List.find?_eq_none.mpr (fun p hp => by simpa using no p hp)]; rfl

/-! ### the text by places -/
def top (i : Nat) : Stmt := PySem.Challenge.pw_wasmhost_k12_opcodes.main.body.getD i (.Pass ⟨0, 0, 0, 0⟩)
abbrev s_opcode : Stmt := top 8
abbrev s_instruction_name : Stmt := top 9
abbrev s__law_cell : Stmt := top 11
abbrev s__law_opcode : Stmt := top 12
abbrev s__law_all_names : Stmt := top 13
abbrev s__law_char : Stmt := top 14
abbrev s__law_edited : Stmt := top 15
abbrev s__law_refused : Stmt := top 16
abbrev s__law_listed : Stmt := top 17
abbrev s_law : Stmt := top 18
theorem sc_opcode : FnScope ["name", "code", "known"] ["name"] (defScope s_opcode) := ⟨rfl, rfl, rfl, by decide +kernel, rfl, by decide +kernel, by decide +kernel⟩
theorem sc_instruction_name : FnScope ["code"] ["code"] (defScope s_instruction_name) := ⟨rfl, rfl, rfl, by decide +kernel, rfl, by decide +kernel, by decide +kernel⟩
theorem sc__law_cell : FnScope ["script", "k"] ["script", "k"] (defScope s__law_cell) := ⟨rfl, rfl, rfl, by decide +kernel, rfl, by decide +kernel, by decide +kernel⟩
theorem sc__law_opcode : FnScope ["name", "rows", "compared", "counted", "first", "names", "word"] ["name"] (defScope s__law_opcode) := ⟨rfl, rfl, rfl, by decide +kernel, rfl, by decide +kernel, by decide +kernel⟩
theorem sc__law_all_names : FnScope ["words", "names", "word"] [] (defScope s__law_all_names) := ⟨rfl, rfl, rfl, by decide +kernel, rfl, by decide +kernel, by decide +kernel⟩
theorem sc__law_char : FnScope ["cell", "chars"] ["cell"] (defScope s__law_char) := ⟨rfl, rfl, rfl, by decide +kernel, rfl, by decide +kernel, by decide +kernel⟩
theorem sc__law_edited : FnScope ["name", "cell", "at", "char"] ["name", "cell"] (defScope s__law_edited) := ⟨rfl, rfl, rfl, by decide +kernel, rfl, by decide +kernel, by decide +kernel⟩
theorem sc__law_refused : FnScope ["name", "e"] ["name"] (defScope s__law_refused) := ⟨rfl, rfl, rfl, by decide +kernel, rfl, by decide +kernel, by decide +kernel⟩
theorem sc__law_listed : FnScope ["name", "code", "due", "told", "k", "back"] ["name", "code"] (defScope s__law_listed) := ⟨rfl, rfl, rfl, by decide +kernel, rfl, by decide +kernel, by decide +kernel⟩
theorem sc_law : FnScope ["script", "names", "codes", "name", "code", "k", "cell"] ["script"] (defScope s_law) := ⟨rfl, rfl, rfl, by decide +kernel, rfl, by decide +kernel, by decide +kernel⟩
/-- where the own classes stand -/
structure Cs where
  C_HostError : Addr
  C_DecodeError : Addr
  I_DecodeError : Addr
  D_DecodeError : FuncData
  C_UnknownInstruction : Addr
  I_UnknownInstruction : Addr
  D_UnknownInstruction : FuncData
  t_NAMES : Addr
  t_PREFIXED_NAMES : Addr
def z_NAMES : List (Int × Str) := ((0 : Int), ("unreachable" : Str)) :: ((1 : Int), ("nop" : Str)) :: ((2 : Int), ("block" : Str)) :: ((3 : Int), ("loop" : Str)) :: ((4 : Int), ("if" : Str)) :: ((8 : Int), ("throw" : Str)) :: ((12 : Int), ("br" : Str)) :: ((13 : Int), ("br_if" : Str)) :: ((14 : Int), ("br_table" : Str)) :: ((15 : Int), ("return" : Str)) :: ((16 : Int), ("call" : Str)) :: ((17 : Int), ("call_indirect" : Str)) :: ((26 : Int), ("drop" : Str)) :: ((27 : Int), ("select" : Str)) :: ((31 : Int), ("try_table" : Str)) :: ((32 : Int), ("local.get" : Str)) :: ((33 : Int), ("local.set" : Str)) :: ((34 : Int), ("local.tee" : Str)) :: ((35 : Int), ("global.get" : Str)) :: ((36 : Int), ("global.set" : Str)) :: ((40 : Int), ("i32.load" : Str)) :: ((41 : Int), ("i64.load" : Str)) :: ((44 : Int), ("i32.load8_s" : Str)) :: ((45 : Int), ("i32.load8_u" : Str)) :: ((46 : Int), ("i32.load16_s" : Str)) :: ((47 : Int), ("i32.load16_u" : Str)) :: ((48 : Int), ("i64.load8_s" : Str)) :: ((49 : Int), ("i64.load8_u" : Str)) :: ((50 : Int), ("i64.load16_s" : Str)) :: ((51 : Int), ("i64.load16_u" : Str)) :: ((52 : Int), ("i64.load32_s" : Str)) :: ((53 : Int), ("i64.load32_u" : Str)) :: ((54 : Int), ("i32.store" : Str)) :: ((55 : Int), ("i64.store" : Str)) :: ((58 : Int), ("i32.store8" : Str)) :: ((59 : Int), ("i32.store16" : Str)) :: ((60 : Int), ("i64.store8" : Str)) :: ((61 : Int), ("i64.store16" : Str)) :: ((62 : Int), ("i64.store32" : Str)) :: ((63 : Int), ("memory.size" : Str)) :: ((64 : Int), ("memory.grow" : Str)) :: ((65 : Int), ("i32.const" : Str)) :: ((66 : Int), ("i64.const" : Str)) :: ((69 : Int), ("i32.eqz" : Str)) :: ((70 : Int), ("i32.eq" : Str)) :: ((71 : Int), ("i32.ne" : Str)) :: ((72 : Int), ("i32.lt_s" : Str)) :: ((73 : Int), ("i32.lt_u" : Str)) :: ((74 : Int), ("i32.gt_s" : Str)) :: ((75 : Int), ("i32.gt_u" : Str)) :: ((76 : Int), ("i32.le_s" : Str)) :: ((77 : Int), ("i32.le_u" : Str)) :: ((78 : Int), ("i32.ge_s" : Str)) :: ((79 : Int), ("i32.ge_u" : Str)) :: ((80 : Int), ("i64.eqz" : Str)) :: ((81 : Int), ("i64.eq" : Str)) :: ((82 : Int), ("i64.ne" : Str)) :: ((83 : Int), ("i64.lt_s" : Str)) :: ((84 : Int), ("i64.lt_u" : Str)) :: ((85 : Int), ("i64.gt_s" : Str)) :: ((86 : Int), ("i64.gt_u" : Str)) :: ((87 : Int), ("i64.le_s" : Str)) :: ((88 : Int), ("i64.le_u" : Str)) :: ((89 : Int), ("i64.ge_s" : Str)) :: ((90 : Int), ("i64.ge_u" : Str)) :: ((103 : Int), ("i32.clz" : Str)) :: ((104 : Int), ("i32.ctz" : Str)) :: ((105 : Int), ("i32.popcnt" : Str)) :: ((106 : Int), ("i32.add" : Str)) :: ((107 : Int), ("i32.sub" : Str)) :: ((108 : Int), ("i32.mul" : Str)) :: ((109 : Int), ("i32.div_s" : Str)) :: ((110 : Int), ("i32.div_u" : Str)) :: ((111 : Int), ("i32.rem_s" : Str)) :: ((112 : Int), ("i32.rem_u" : Str)) :: ((113 : Int), ("i32.and" : Str)) :: ((114 : Int), ("i32.or" : Str)) :: ((115 : Int), ("i32.xor" : Str)) :: ((116 : Int), ("i32.shl" : Str)) :: ((117 : Int), ("i32.shr_s" : Str)) :: ((118 : Int), ("i32.shr_u" : Str)) :: ((119 : Int), ("i32.rotl" : Str)) :: ((120 : Int), ("i32.rotr" : Str)) :: ((121 : Int), ("i64.clz" : Str)) :: ((122 : Int), ("i64.ctz" : Str)) :: ((123 : Int), ("i64.popcnt" : Str)) :: ((124 : Int), ("i64.add" : Str)) :: ((125 : Int), ("i64.sub" : Str)) :: ((126 : Int), ("i64.mul" : Str)) :: ((127 : Int), ("i64.div_s" : Str)) :: ((128 : Int), ("i64.div_u" : Str)) :: ((129 : Int), ("i64.rem_s" : Str)) :: ((130 : Int), ("i64.rem_u" : Str)) :: ((131 : Int), ("i64.and" : Str)) :: ((132 : Int), ("i64.or" : Str)) :: ((133 : Int), ("i64.xor" : Str)) :: ((134 : Int), ("i64.shl" : Str)) :: ((135 : Int), ("i64.shr_s" : Str)) :: ((136 : Int), ("i64.shr_u" : Str)) :: ((137 : Int), ("i64.rotl" : Str)) :: ((138 : Int), ("i64.rotr" : Str)) :: ((167 : Int), ("i32.wrap_i64" : Str)) :: ((172 : Int), ("i64.extend_i32_s" : Str)) :: ((173 : Int), ("i64.extend_i32_u" : Str)) :: ((192 : Int), ("i32.extend8_s" : Str)) :: ((193 : Int), ("i32.extend16_s" : Str)) :: ((194 : Int), ("i64.extend8_s" : Str)) :: ((195 : Int), ("i64.extend16_s" : Str)) :: ((196 : Int), ("i64.extend32_s" : Str)) :: []
abbrev v_NAMES (_ : Cs) : List (Int × V) := strsI z_NAMES
theorem nd_NAMES : ((strsI z_NAMES).map (·.1)).Nodup := by unfold strsI; rw [List.map_map]; exact (by decide +kernel : (z_NAMES.map (·.1)).Nodup)
def z_PREFIXED_NAMES : List (Int × Str) := ((10 : Int), ("memory.copy" : Str)) :: ((11 : Int), ("memory.fill" : Str)) :: []
abbrev v_PREFIXED_NAMES (_ : Cs) : List (Int × V) := strsI z_PREFIXED_NAMES
theorem nd_PREFIXED_NAMES : ((strsI z_PREFIXED_NAMES).map (·.1)).Nodup := by unfold strsI; rw [List.map_map]; exact (by decide +kernel : (z_PREFIXED_NAMES.map (·.1)).Nodup)
abbrev i_DecodeError : Stmt := inClass (top 2) 0
theorem sci_DecodeError : FnScope ["self", "reason", "place"] ["self", "reason", "place"] (defScope i_DecodeError) := ⟨rfl, rfl, rfl, by decide +kernel, rfl, by decide +kernel, by decide +kernel⟩
abbrev i_UnknownInstruction : Stmt := inClass (top 3) 0
theorem sci_UnknownInstruction : FnScope ["self", "name"] ["self", "name"] (defScope i_UnknownInstruction) := ⟨rfl, rfl, rfl, by decide +kernel, rfl, by decide +kernel, by decide +kernel⟩
/-- what the top leaves: built-in names that nothing binds, own classes -/
structure Tp (w : World) (K : PySem.W.Frag) (mg : Str → Option Value) (cs : Cs) : Prop where
  m_bool : mg "bool" = none
  m_int : mg "int" = none
  m_isinstance : mg "isinstance" = none
  m_len : mg "len" = none
  m_list : mg "list" = none
  m_min : mg "min" = none
  m_range : mg "range" = none
  m_str : mg "str" = none
  g_HostError : mg "HostError" = some (.ref cs.C_HostError)
  g_DecodeError : mg "DecodeError" = some (.ref cs.C_DecodeError)
  e_DecodeError : ExK K mg "DecodeError" cs.C_DecodeError
  iC_DecodeError : PySem.W.findIn K (.ref cs.C_DecodeError) "__init__" = some (some (.ref cs.I_DecodeError))
  tI_DecodeError : PySem.W.typeIn K (.ref cs.I_DecodeError) = some (.type "function")
  F_DecodeError : L2.Fun K "__init__" "DecodeError.__init__" i_DecodeError cs.I_DecodeError cs.D_DecodeError
  b_DecodeError : Binds K cs.D_DecodeError ["self", "reason", "place"] []
  no_DecodeError_reason : PySem.W.findIn K (.ref cs.C_DecodeError) "reason" = some none
  no_DecodeError_place : PySem.W.findIn K (.ref cs.C_DecodeError) "place" = some none
  kit_DecodeError_HostError : PySem.W.kitOne K (.ref cs.C_DecodeError) (.ref cs.C_HostError) = some true
  exm_DecodeError_HostError : PySem.W.exmOne K (.ref cs.C_DecodeError) (.ref cs.C_HostError) = some true
  kit_DecodeError_DecodeError : PySem.W.kitOne K (.ref cs.C_DecodeError) (.ref cs.C_DecodeError) = some true
  exm_DecodeError_DecodeError : PySem.W.exmOne K (.ref cs.C_DecodeError) (.ref cs.C_DecodeError) = some true
  kit_DecodeError_UnknownInstruction : PySem.W.kitOne K (.ref cs.C_DecodeError) (.ref cs.C_UnknownInstruction) = some false
  exm_DecodeError_UnknownInstruction : PySem.W.exmOne K (.ref cs.C_DecodeError) (.ref cs.C_UnknownInstruction) = some false
  kit_DecodeError_VE : PySem.W.kitOne K (.ref cs.C_DecodeError) (.type "ValueError") = some true
  g_UnknownInstruction : mg "UnknownInstruction" = some (.ref cs.C_UnknownInstruction)
  e_UnknownInstruction : ExK K mg "UnknownInstruction" cs.C_UnknownInstruction
  iC_UnknownInstruction : PySem.W.findIn K (.ref cs.C_UnknownInstruction) "__init__" = some (some (.ref cs.I_UnknownInstruction))
  tI_UnknownInstruction : PySem.W.typeIn K (.ref cs.I_UnknownInstruction) = some (.type "function")
  F_UnknownInstruction : L2.Fun K "__init__" "UnknownInstruction.__init__" i_UnknownInstruction cs.I_UnknownInstruction cs.D_UnknownInstruction
  b_UnknownInstruction : Binds K cs.D_UnknownInstruction ["self", "name"] []
  no_UnknownInstruction_name : PySem.W.findIn K (.ref cs.C_UnknownInstruction) "name" = some none
  kit_UnknownInstruction_HostError : PySem.W.kitOne K (.ref cs.C_UnknownInstruction) (.ref cs.C_HostError) = some true
  exm_UnknownInstruction_HostError : PySem.W.exmOne K (.ref cs.C_UnknownInstruction) (.ref cs.C_HostError) = some true
  kit_UnknownInstruction_DecodeError : PySem.W.kitOne K (.ref cs.C_UnknownInstruction) (.ref cs.C_DecodeError) = some false
  exm_UnknownInstruction_DecodeError : PySem.W.exmOne K (.ref cs.C_UnknownInstruction) (.ref cs.C_DecodeError) = some false
  kit_UnknownInstruction_UnknownInstruction : PySem.W.kitOne K (.ref cs.C_UnknownInstruction) (.ref cs.C_UnknownInstruction) = some true
  exm_UnknownInstruction_UnknownInstruction : PySem.W.exmOne K (.ref cs.C_UnknownInstruction) (.ref cs.C_UnknownInstruction) = some true
  kit_UnknownInstruction_VE : PySem.W.kitOne K (.ref cs.C_UnknownInstruction) (.type "ValueError") = some true
  g_NAMES : mg "NAMES" = some (.ref cs.t_NAMES)
  d_NAMES : DicI K cs.t_NAMES (v_NAMES cs)
  g_PREFIXED_NAMES : mg "PREFIXED_NAMES" = some (.ref cs.t_PREFIXED_NAMES)
  d_PREFIXED_NAMES : DicI K cs.t_PREFIXED_NAMES (v_PREFIXED_NAMES cs)
  i_PREFIX : ∃ t, mg "PREFIX" = some (.int 252 t)
theorem in_DecodeError {P : Program} {w : World} {K : PySem.W.Frag} {mg : Str → Option Value} {base : Heap} {cs : Cs} (T : Tp w K mg cs) : FnOk P w K mg base CX0 1 cs.I_DecodeError cs.D_DecodeError ["self", "reason", "place"] (spI2 K cs.C_DecodeError "reason" "place") :=
  init2 T.F_DecodeError sci_DecodeError T.e_DecodeError.T T.no_DecodeError_reason T.no_DecodeError_place rfl (.inl rfl) (.inl rfl) (.inl rfl) (by decide) (by decide) (by decide) (by decide)
theorem in_UnknownInstruction {P : Program} {w : World} {K : PySem.W.Frag} {mg : Str → Option Value} {base : Heap} {cs : Cs} (T : Tp w K mg cs) : FnOk P w K mg base CX0 1 cs.I_UnknownInstruction cs.D_UnknownInstruction ["self", "name"] (spI1 K cs.C_UnknownInstruction "name") :=
  init1 T.F_UnknownInstruction sci_UnknownInstruction T.e_UnknownInstruction.T T.no_UnknownInstruction_name rfl (.inl rfl) (.inl rfl) (by decide) (by decide)
/-! ### lists of ints that are the same -/
theorem dp_all {K : PySem.W.Frag} {H : Hp} : ∀ ns : List Int, DpAll K H (ns.map V.int) (ns.map PyData.int)
  | [] => .nil
  | _ :: r => .cons (.int _) (dp_all r)
theorem canlay_ints : ∀ ns : List Int, PyData.canLayAll0 (ns.map PyData.int) = true
  | [] => rfl
  | _ :: r => by
    show PyData.canLayAll0 (PyData.int _ :: r.map PyData.int) = true
    simp only [PyData.canLayAll0, PyData.canLay0, canlay_ints r, Bool.and_self]
theorem depth_ints : ∀ ns : List Int, PyData.depthAll (ns.map PyData.int) ≤ 63
  | [] => by simp [PyData.depthAll]
  | _ :: r => by
    have h := depth_ints r
    simp [PyData.depthAll, PyData.depth] at h ⊢
    exact h
theorem shaped_ints (ns : List Int) : SeqAt.shaped (.list (ns.map PyData.int)) = true := by
  unfold SeqAt.shaped
  rw [Bool.and_eq_true]
  refine ⟨?_, decide_eq_true ?_⟩
  · simp only [PyData.canLay0, canlay_ints]
  · have h := depth_ints ns
    simp only [PyData.depth] at h ⊢
    omega
theorem eqD_same {K : PySem.W.Frag} {H : Hp} {x y : V} {d : PyData} {Q : VK} (h1 : Dp K H x d) (h2 : Dp K H y d) (s : SeqAt.shaped d = true) (q : Q (.bl true) H) : rEqD K x y H Q :=
  ⟨d, d, h1, h2, s, s, by rw [SeqAt.eqv_refl d (SeqAt.canLay_of_shaped s)]; exact q⟩
theorem neD_same {K : PySem.W.Frag} {H : Hp} {x y : V} {d : PyData} {Q : VK} (h1 : Dp K H x d) (h2 : Dp K H y d) (s : SeqAt.shaped d = true) (q : Q (.bl false) H) : rNeD K x y H Q :=
  ⟨d, d, h1, h2, s, s, by rw [SeqAt.eqv_refl d (SeqAt.canLay_of_shaped s)]; exact q⟩
theorem dp_ints {K : PySem.W.Frag} {H : Hp} {a : Addr} {ns : List Int} (h : SqL K H a (ns.map V.int)) : Dp K H (.ref a) (.list (ns.map PyData.int)) := .lst h (dp_all ns)
theorem eqv_ints (ns : List Int) : PyData.eqv (.list (ns.map PyData.int)) (.list (ns.map PyData.int)) = true := SeqAt.eqv_refl _ (SeqAt.canLay_of_shaped (shaped_ints ns))

/-! ### ifs and tests whose answer is known -/
theorem ifNe {x y : Int} {A B : Prop} (e : x = y) (h : B) : if (!decide (V.int x = V.int y)) = true then A else B := by
  subst e
  rw [decide_eq_true rfl]
  exact h
theorem ifNeN {x y : Int} {A B : Prop} (e : ¬ x = y) (h : A) : if (!decide (V.int x = V.int y)) = true then A else B := by
  rw [decide_eq_false (fun z => e (V.int.inj z))]
  exact h
theorem eqT {x y : Int} (e : x = y) : decide (V.int x = V.int y) = true := decide_eq_true (congrArg V.int e)
theorem qT {x y : Int} {Q : VK} {H : Hp} (e : x = y) (h : Q (.bl true) H) : Q (.bl (decide (V.int x = V.int y))) H := by rw [eqT e]; exact h
theorem orV {t u : TE} {σ : L2.St} {H : Hp} {Q : VK} (b1 b2 : Bool) (h1 : ∀ Q, (∀ H', Same H H' → Q (.bl b1) H') → t σ H Q) (h2 : ∀ H' Q, Q (.bl b2) H' → u σ H' Q) (q : ∀ H', Same H H' → Q (.bl (b1 || b2)) H') : tOrV t u σ H Q := by
  refine h1 _ fun H' s => ⟨b1, rfl, ?_⟩
  cases b1 with
  | true => rw [if_pos rfl]; exact q _ s
  | false => rw [if_neg (by decide)]; exact h2 _ _ (q _ s)
theorem andV {t u : TE} {σ : L2.St} {H : Hp} {Q : VK} (b1 b2 : Bool) (h1 : ∀ Q, Q (.bl b1) H → t σ H Q) (h2 : ∀ Q, Q (.bl b2) H → u σ H Q) (q : Q (.bl (b1 && b2)) H) : tAndV t u σ H Q := by
  refine h1 _ ⟨b1, rfl, ?_⟩
  cases b1 with
  | true => rw [if_pos rfl]; exact h2 _ q
  | false => rw [if_neg (by decide)]; exact q
theorem orF {t u : TT} {σ : L2.St} {H : Hp} {Q : Bool → Hp → Prop} (h1 : ∀ Q, (∀ H', Same H H' → Q false H') → t σ H Q) (h2 : ∀ H', Same H H' → ∀ Q, (∀ H'', Same H' H'' → Q false H'') → u σ H' Q) (q : ∀ H', Same H H' → Q false H') : tOr t u σ H Q := by
  refine h1 _ fun H' s => ?_
  rw [if_neg (by decide)]
  exact h2 _ s _ fun H'' s' => q _ (s.trans s')
theorem neF {x y : Int} {Q : Bool → Hp → Prop} {H : Hp} (e : x = y) (h : Q false H) : Q (!decide (V.int x = V.int y)) H := by rw [eqT e]; exact h
theorem ifEq {x y : Int} {A B : Prop} (e : x = y) (h : A) : if decide (V.int x = V.int y) = true then A else B := by rw [eqT e]; exact h
theorem ifEqN {x y : Int} {A B : Prop} (e : ¬ x = y) (h : B) : if decide (V.int x = V.int y) = true then A else B := by
  rw [decide_eq_false (fun z => e (V.int.inj z))]; exact h
theorem ifS {x y : Str} {A B : Prop} (e : x = y) (h : A) : if decide (V.str x = V.str y) = true then A else B := by rw [if_pos (decide_eq_true (congrArg V.str e))]; exact h
theorem ifSN {x y : Str} {A B : Prop} (e : ¬ x = y) (h : B) : if decide (V.str x = V.str y) = true then A else B := by
  rw [if_neg (fun z => e (V.str.inj (of_decide_eq_true z)))]; exact h
theorem ifNeS {x y : Str} {A B : Prop} (e : x = y) (h : B) : if (!decide (V.str x = V.str y)) = true then A else B := by
  subst e
  rw [decide_eq_true rfl]
  exact h
theorem qTS {x y : Str} {Q : VK} {H : Hp} (e : x = y) (h : Q (.bl true) H) : Q (.bl (decide (V.str x = V.str y))) H := by rw [decide_eq_true (congrArg V.str e)]; exact h
theorem call_isiS {X : Cx} {a : Addr} {ps : List (Addr × Obj)} : CallR (X.suite a ps) (.builtin "isinstance") (rIsi X.K) := call_isi
theorem for_tupE {K : PySem.W.Frag} {a : Addr} {xs : List V} {g : TG} {tb : TS} {nx : L2.St → Hp → Prop} {rt : VK} {σ : L2.St} {H : Hp} (Pv : Nat → L2.St → Hp → Prop) (h0 : Pv 0 σ H) (hl : ∀ i σ H, i ≤ xs.length → Pv i σ H → SqT K H a xs)
    (hs : ∀ i x σ H, xs[i]? = some x → Pv i σ H → g x σ H fun σ2 H2 => tb { nx := Pv (i + 1), rt := rt, bk := nx, ct := Pv (i + 1) } σ2 H2) (hd : ∀ σ H, Pv xs.length σ H → nx σ H) :
    ∃ W : Nat → Nat → L2.St → Hp → Prop, (∃ m, W 0 m σ H) ∧ ∀ i m σ H, W i m σ H → ((Itt K a).stop i H ∧ nx σ H) ∨ ((Itt K a).go i H ∧ ∃ N : L2.St → Hp → Prop, (∀ σ' H', N σ' H' → ∃ m', m' < m ∧ W (i + 1) m' σ' H') ∧
      ∀ x H', (Itt K a).yld i H x H' → g x σ H' fun σ2 H2 => tb { nx := N, rt := rt, bk := nx, ct := N } σ2 H2) := for_tup (D := { nx := nx, rt := rt }) Pv h0 hl hs hd
theorem isi_bool {K : PySem.W.Frag} {H : Hp} {b : Bool} {Q : VK} (q : Q (.bl true) H) : rIsi K [.bl b, .ty "bool"] H Q := ⟨.bl b, .ty "bool", _, _, true, rfl, .ty _, .base (.bl _), kit_ty (by decide +kernel), q⟩
theorem ne_of_nd {x y : Int} (h : (!decide (V.int x = V.int y)) = true) : ¬ x = y := fun e => by
  rw [decide_eq_true (congrArg V.int e)] at h; cases h
theorem eq_of_nd {x y : Int} (h : ¬ (!decide (V.int x = V.int y)) = true) : x = y := by
  by_cases e : x = y
  · exact e
  · exact absurd (by rw [decide_eq_false (fun z => e (V.int.inj z))]; rfl) h
theorem eq_of_d {x y : Int} (h : decide (V.int x = V.int y) = true) : x = y := V.int.inj (of_decide_eq_true h)
theorem ne_of_d {x y : Int} (h : ¬ decide (V.int x = V.int y) = true) : ¬ x = y := fun e => h (decide_eq_true (congrArg V.int e))
theorem sign_of (d : Nat) : -1 ≤ ([1, -1] : List Int).getD d 0 ∧ ([1, -1] : List Int).getD d 0 ≤ 1 := by
  match d with
  | 0 => decide
  | 1 => decide
  | _ + 2 => exact (by decide : (-1 : Int) ≤ 0 ∧ (0 : Int) ≤ 1)
section
variable {X : Cx} {s : Shared} {H : Hp} {sc : Scope} {en : Env} {fp : List Addr}
theorem ix_listB : IxR (X.blk s H sc en fp) (L2.rIxL X.K) := ix_list
theorem ix_tupB : IxR (X.blk s H sc en fp) (L2.rIxT X.K) := ix_tup
theorem call_isiB : CallR (X.blk s H sc en fp) (.builtin "isinstance") (rIsi X.K) := call_isi
end
theorem andIf {t : TE} {σ : L2.St} {H : Hp} {Q : VK} {b1 b2 : Bool} (h : ∀ Q', Q' (.bl b2) H → t σ H Q') (q : Q (.bl (b1 && b2)) H) : if b1 = true then t σ H Q else Q (.bl false) H := by
  cases b1 with
  | true => exact h _ q
  | false => exact q
theorem op_eqDS {X : Cx} {a : Addr} {ps : List (Addr × Obj)} (hu : X.A.units + 64 < cLine) : OpR (X.suite a ps) (compareOp .Eq) (rEqD X.K) := op_eqD (X := X.suite a ps) hu
theorem isi_of {K : PySem.W.Frag} {H : Hp} {x : V} {n : String} {t : Value} {b : Bool} {Q : VK} (h : TyX K H x t) (k : PySem.W.kitOne K t (.type n) = some b) (q : Q (.bl b) H) : rIsi K [x, .ty n] H Q := ⟨x, .ty n, t, _, b, rfl, .ty _, h, k, q⟩

/-! ### lists of texts, heaps that grow -/
theorem newE {H H' : Hp} {p : Addr} {xs : List V} {zs : List Str} (h : H p = none) (e : upd H p (.lst xs) = H') (hx : xs = zs.map V.str) : Same H H' ∧ H' p = some (.lst (zs.map V.str)) := by
  subst e hx
  exact ⟨Same.new h, upd_same⟩
theorem at_strs {zs : List Str} {k : Nat} (h : k < zs.length) : ∃ z ∈ zs, atI (zs.map V.str) (k : Int) = some (.str z) :=
  ⟨zs[k], List.getElem_mem h, atI_nat (by rw [List.getElem?_map, List.getElem?_eq_getElem h]; rfl)⟩
theorem none_of {H H' : Hp} {p : Addr} (s : Same H H') (h : H' p = none) : H p = none := by
  cases e : H p with
  | none => rfl
  | some o => rw [s _ _ e] at h; cases h
theorem catE {H : Hp} {l b : Addr} {zs ys : List Str} {Q : VK} (hl : H l = some (.lst (zs.map V.str))) (hb : H b = some (.lst (ys.map V.str))) (hn : zs.length + ys.length ≤ 1000) (q : ∀ p H', Same H H' → H p = none → H' p = some (.lst ((zs ++ ys).map V.str)) → Q (.ref p) H') : rCat (.ref l) (.ref b) H Q :=
  ⟨l, b, _, _, rfl, rfl, hl, hb, by rw [List.length_map, List.length_map]; exact small64 (by omega), fun p hp => q p _ (Same.new hp) hp (by rw [upd_same, List.map_append])⟩
def LstS (H : Hp) (Q : VK) (zs : List Str) : Prop := ∀ p H', Same H H' → H p = none → H' p = some (.lst (zs.map V.str)) → Q (.ref p) H'
theorem lc_mapS {K : PySem.W.Frag} {a : Addr} {zs : List Str} {j : Nat} {te : TE} {σ : L2.St} {H1 : Hp} {D : Addr} {Qd : Hp → Prop} (f : Str → Str) (hD : H1 D = none) (hS : SqL K H1 a (zs.map V.str)) (hn : zs.length ≤ 100000)
    (hs : ∀ z H Q, z ∈ zs → Same H1 H → (∀ H', Same H H' → Q (.str (f z)) H') → te ((σ.set j none).set j (some (.str z))) H Q) (hd : ∀ H, Same H1 H → H D = some (.lst ((zs.map f).map V.str)) → Qd H) :
    ∃ W : Nat → Nat → Hp → Prop, (∃ m, W 0 m (upd H1 D (.lst []))) ∧ ∀ i m H, W i m H →
      ((Itl K a).stop i H ∧ Qd H) ∨ ((Itl K a).go i H ∧ ∃ Nx : Hp → Prop, (∀ H', Nx H' → ∃ m', m' < m ∧ W (i + 1) m' H') ∧ ∀ x H', (Itl K a).yld i H x H' → gName j x (wipe σ [j]) H' fun σ2 H2 => wipe σ2 [j] = wipe σ [j] ∧ tYes σ2 H2 fun b H3 =>
        if b = true then te σ2 H3 fun y H4 => ∃ acc, H4 D = some (.lst acc) ∧ acc.length < sizeLine ∧ Nx (upd H4 D (.lst (acc ++ [y]))) else Nx H3) := by
  refine lc_map (f := fun v => match v with | .str z => .str (f z) | v => v) hD hS (by rw [List.length_map]; exact hn) (fun x H2 Q2 hx s2 q2 => ?_) (fun H2 s2 hD2 => ?_)
  · obtain ⟨z, hz, rfl⟩ := List.mem_map.mp hx
    exact hs z H2 Q2 hz s2 q2
  · refine hd H2 s2 ?_
    rw [hD2, List.map_map, List.map_map]; rfl
theorem flat_strs : ∀ zs : List Str, (zs.map V.str).all flatV = true
  | [] => rfl
  | _ :: r => flat_strs r
theorem inV_mem (z : Str) (zs : List Str) : inV (.str z) (zs.map V.str) = true ↔ z ∈ zs := by
  unfold inV
  rw [List.any_map, List.any_eq_true]
  constructor
  · rintro ⟨y, hy, e⟩
    have e' : (y == z) = true := e
    rw [← eq_of_beq e']; exact hy
  · intro h
    exact ⟨z, h, (beq_self_eq_true z : (z == z) = true)⟩

section
variable {P : Program} {w : World} {K : PySem.W.Frag} {mg : Str → Option Value} {base : Heap} {cs : Cs}
/-! ### opcode, instruction_name -/
def Unk (cs : Cs) (H : Hp) (E : XK) (z : Str) : Prop := ∀ d Hf, Same H Hf → Hf d = some (.xd [("name", .str z)]) → E (.ref cs.C_UnknownInstruction) (some d) Hf
def sp_instruction_name (K : PySem.W.Frag) (cs : Cs) : Sp := fun vs H Q _ => ∃ c : Int, vs = [.int c] ∧ Q (optS (lookI z_NAMES c)) H
theorem c_instruction_name (D : Def K mg "instruction_name" s_instruction_name ["code"]) (T : Tp w K mg cs)  : Cal P w K mg base CX0 1 "instruction_name" (sp_instruction_name K cs) := by
  refine D.ok sc_instruction_name (fun vs H Q E h => ?_) (fun f cdv A outer s H vs Q E hr h => ?_)
  · obtain ⟨c, rfl, _⟩ := h; rfl
  · obtain ⟨c, rfl, q⟩ := h
    refine ⟨_, (pss_one (ps_ret (pe_get1W T.d_NAMES (pe_glob (v := .ref cs.t_NAMES) (by rfl) T.g_NAMES rfl) (pv 0) ⟨by rfl, by rfl, by rfl, by rfl⟩))), ?_⟩
    rw [← valV_strs] at q
    exact ⟨rfl, _, rfl, c, rfl, q⟩
def opcL (n : Str) : Option (List Int) := match codeI z_NAMES n with
  | some c => some [c]
  | none => (codeI z_PREFIXED_NAMES n).map fun c => [252, c]
def sp_opcode (K : PySem.W.Frag) (cs : Cs) : Sp := fun vs H Q E => ∃ n : Str, vs = [.str n] ∧ (∀ l, opcL n = some l → ∀ p H', Same H H' → H' p = some (.lst (l.map V.int)) → Q (.ref p) H') ∧ (opcL n = none → Unk cs H E n)
theorem c_opcode (D : Def K mg "opcode" s_opcode ["name"]) (T : Tp w K mg cs)  : Cal P w K mg base (L2.CX P w) 3 "opcode" (sp_opcode K cs) := by
  refine D.okX sc_opcode (fun vs H Q E h => ?_) (fun f cdv A outer s H vs Q E hr h => ?_)
  · obtain ⟨n, rfl, _⟩ := h; rfl
  · obtain ⟨n, rfl, q, qe⟩ := h
    refine ⟨_, (pss_cons (ps_for (passes_of rfl) rfl (pi_itemsW T.d_NAMES (pe_glob (v := .ref cs.t_NAMES) (by rfl) T.g_NAMES rfl)) (pg_tup (by rfl) (pgs_cons (pg_name (i := 1) sc_opcode.nd rfl (by first | exact Or.inl rfl | exact Or.inr rfl)) (pgs_cons (pg_name (i := 2) sc_opcode.nd rfl (by first | exact Or.inl rfl | exact Or.inr rfl)) pgs_nil))) (pss_one (ps_if (pt_cmpR op_eq (pv 2) (pv 0) (by first | rfl | exact nomark _)) (pss_one (ps_ret (pe_lst (pa_cons (pv 1) pa_nil)))) pss_nil)))
      (pss_cons (ps_for (passes_of rfl) rfl (pi_itemsW T.d_PREFIXED_NAMES (pe_glob (v := .ref cs.t_PREFIXED_NAMES) (by rfl) T.g_PREFIXED_NAMES rfl)) (pg_tup (by rfl) (pgs_cons (pg_name (i := 1) sc_opcode.nd rfl (by first | exact Or.inl rfl | exact Or.inr rfl)) (pgs_cons (pg_name (i := 2) sc_opcode.nd rfl (by first | exact Or.inl rfl | exact Or.inr rfl)) pgs_nil))) (pss_one (ps_if (pt_cmpR op_eq (pv 2) (pv 0) (by first | rfl | exact nomark _)) (pss_one (ps_ret (pe_lst (pa_cons (pe_gint (by rfl) T.i_PREFIX) (pa_cons (pv 1) pa_nil))))) pss_nil)))
      (pss_one (ps_raise rfl (takes_of rfl rfl rfl rfl) (pmk_oex T.e_UnknownInstruction.T T.iC_UnknownInstruction T.tI_UnknownInstruction (in_UnknownInstruction T) (hr.mono (by decide)) T.b_UnknownInstruction .nil pass0 (by rfl) T.e_UnknownInstruction.g (pa_cons (pv 0) pa_nil)))))), ?_⟩
    walk_at "go"
    refine for_itemsW (fun i σ H2 => Same H H2 ∧ (∀ p ∈ z_NAMES.take i, ¬ p.2 = n) ∧ ∃ o1 o2, σ = [some (.str n), o1, o2]) ⟨Same.refl _, (fun _ h => nomatch h), _, _, rfl⟩ ?_ ?_
    · rintro i k v t _ H2 hk ⟨s2, no, o1, o2, rfl⟩ ht
      obtain ⟨x, hx, rfl⟩ := strsI_at hk
      refine ⟨t, _, rfl, SqT.new, rfl, ?_⟩
      have s3 := s2.trans (Same.new (o := .tup [.int k, .str x]) ht)
      walk_at "go"
      by_cases c : x = n
      · refine ifS c ?_
        subst c
        walk_at "go"
        intro p hp
        refine q [k] ?_ p _ (s3.trans (Same.new hp)) upd_same
        unfold opcL
        rw [codeI_hit hx no]
      · refine ifSN c ?_
        refine ⟨s3, fun p hp => ?_, _, _, rfl⟩
        rw [List.take_add_one, hx] at hp
        rcases List.mem_append.mp hp with hp | hp
        · exact no p hp
        · rw [List.mem_singleton.mp hp]; exact c
    rintro _ H2 ⟨s2, no, o1, o2, rfl⟩
    have no1 : ∀ p ∈ z_NAMES, ¬ p.2 = n := by
      rw [show (v_NAMES cs).length = z_NAMES.length from List.length_map _, List.take_length] at no
      exact no
    walk_at "go"
    refine for_itemsW (fun i σ H3 => Same H H3 ∧ (∀ p ∈ z_PREFIXED_NAMES.take i, ¬ p.2 = n) ∧ ∃ o1 o2, σ = [some (.str n), o1, o2]) ⟨s2, (fun _ h => nomatch h), _, _, rfl⟩ ?_ ?_
    · rintro i k v t _ H3 hk ⟨s2, no, o1, o2, rfl⟩ ht
      obtain ⟨x, hx, rfl⟩ := strsI_at hk
      refine ⟨t, _, rfl, SqT.new, rfl, ?_⟩
      have s3 := s2.trans (Same.new (o := .tup [.int k, .str x]) ht)
      walk_at "go"
      by_cases c : x = n
      · refine ifS c ?_
        subst c
        walk_at "go"
        intro p hp
        refine q [252, k] ?_ p _ (s3.trans (Same.new hp)) upd_same
        unfold opcL
        rw [codeI_none no1, codeI_hit hx no]; rfl
      · refine ifSN c ?_
        refine ⟨s3, fun p hp => ?_, _, _, rfl⟩
        rw [List.take_add_one, hx] at hp
        rcases List.mem_append.mp hp with hp | hp
        · exact no p hp
        · rw [List.mem_singleton.mp hp]; exact c
    rintro _ H3 ⟨s3, no, o1, o2, rfl⟩
    have no2 : ∀ p ∈ z_PREFIXED_NAMES, ¬ p.2 = n := by
      rw [show (v_PREFIXED_NAMES cs).length = z_PREFIXED_NAMES.length from List.length_map _, List.take_length] at no
      exact no
    walk_at "go"
    refine fly1 fun d Hf s1 e1 => qe ?_ d Hf (s3.trans s1) e1
    unfold opcL
    rw [codeI_none no1, codeI_none no2]; rfl
/-! ### cells, edited names -/
def sp__law_cell (K : PySem.W.Frag) (cs : Cs) : Sp := fun vs H Q _ => ∃ (a : Addr) (ns : List Int) (k : Nat), vs = [.ref a, .int k] ∧ SqL K H a (ns.map V.int) ∧ Q (.int (ns.getD k 0)) H
theorem c__law_cell (D : Def K mg "_law_cell" s__law_cell ["script", "k"]) (T : Tp w K mg cs)  : Cal P w K mg base CX0 1 "_law_cell" (sp__law_cell K cs) := by
  refine D.ok sc__law_cell (fun vs H Q E h => ?_) (fun f cdv A outer s H vs Q E hr h => ?_)
  · obtain ⟨a, ns, k, rfl, _⟩ := h; rfl
  · obtain ⟨a, ns, k, rfl, hS, q⟩ := h
    refine ⟨_, (pss_cons (ps_if (pt_cmpR op_lt (pv 1) (pe_callB call_len_seq (by rfl) T.m_len PySem.boot_len (pa_cons (pv 0) pa_nil)) (by first | rfl | exact nomark _)) (pss_one (ps_ret (pe_callTy call_int1 (by rfl) T.m_int (by decide +kernel) (pa_cons (pe_ix ix_list (pv 0) (pv 1) (fun _ _ => rfl)) pa_nil)))) pss_nil)
      (pss_one (ps_ret pe_int))), ?_⟩
    walk_at "go"
    simp only [List.length_map]
    refine ite2 (fun c => ?_) (fun c => ?_)
    · have c' : (k : Int) < ns.length := of_decide_eq_true c
      walk_at "go"
      exact q
    · have c' : ¬ (k : Int) < ns.length := of_decide_eq_false (Bool.eq_false_iff.mpr c)
      rw [List.getD_eq_getElem?_getD, List.getElem?_eq_none (by omega)] at q
      exact q
def sp__law_char (K : PySem.W.Frag) (cs : Cs) : Sp := fun vs H Q _ => ∃ c : Int, vs = [.int c] ∧ ∀ z : Str, z.length = 1 → Q (.str z) H
theorem ixChar {z : Str} {c : Int} {Q : VK} {H : Hp} (h0 : 0 < z.length) (h1 : z.length ≤ 1000) (q : ∀ y : Str, y.length = 1 → Q (.str y) H) : (0 : Int) < z.length ∧ rIxS (.str z) (.int (c % (z.length : Int))) H Q := by
  refine ⟨by omega, ?_⟩
  obtain ⟨k, ek, hk⟩ : ∃ k : Nat, c % (z.length : Int) = (k : Int) ∧ k < z.length := ⟨(c % (z.length : Int)).toNat, by have := Int.emod_nonneg c (show (z.length : Int) ≠ 0 by omega); omega, by have := Int.emod_lt_of_pos c (show (0 : Int) < z.length by omega); have := Int.emod_nonneg c (show (z.length : Int) ≠ 0 by omega); omega⟩
  rw [ek]
  have hk' : k < z.cps.toList.length := hk
  exact ⟨z, _, z.cps.toList[k], rfl, rfl, small64 (by omega), atI_nat (List.getElem?_eq_getElem hk'), q _ rfl⟩
theorem c__law_char (D : Def K mg "_law_char" s__law_char ["cell"]) (T : Tp w K mg cs)  : Cal P w K mg base CX0 1 "_law_char" (sp__law_char K cs) := by
  refine D.ok sc__law_char (fun vs H Q E h => ?_) (fun f cdv A outer s H vs Q E hr h => ?_)
  · obtain ⟨c, rfl, _⟩ := h; rfl
  · obtain ⟨c, rfl, q⟩ := h
    refine ⟨_, (pss_cons (ps_set (i := 1) sc__law_char.nd rfl (by first | exact Or.inl rfl | exact Or.inr rfl) pe_str)
      (pss_one (ps_ret (pe_ix ix_str (pv 1) (pe_op op_mod (pe_callTy call_int1 (by rfl) T.m_int (by decide +kernel) (pa_cons (pv 0) pa_nil)) (pe_callB call_len_str (by rfl) T.m_len PySem.boot_len (pa_cons (pv 1) pa_nil))) (fun _ _ => rfl))))), ?_⟩
    walk_at "go"
    exact ixChar (by decide +kernel) (by decide +kernel) q
def sp__law_edited (K : PySem.W.Frag) (cs : Cs) : Sp := fun vs H Q _ => ∃ (z : Str) (c : Int), vs = [.str z, .int c] ∧ z.length ≤ 100 ∧ ∀ z' : Str, z'.length ≤ 300 → Q (.str z') H
theorem addS {a b : Str} {Q : VK} {H : Hp} (n m : Nat) (ha : a.length ≤ n) (hb : b.length ≤ m) (h : n + m ≤ 1000) (q : Q (.str (a ++ b)) H) : ∃ i j, V.str a = .str i ∧ V.str b = .str j ∧ i.length + j.length ≤ sizeLine ∧ Q (.str (i ++ j)) H :=
  ⟨a, b, rfl, rfl, small64 (by omega), q⟩
theorem c__law_edited (D : Def K mg "_law_edited" s__law_edited ["name", "cell"]) (T : Tp w K mg cs) (c__law_char : Cal P w K mg base CX0 1 "_law_char" (sp__law_char K cs)) : Cal P w K mg base CX0 2 "_law_edited" (sp__law_edited K cs) := by
  refine D.ok sc__law_edited (fun vs H Q E h => ?_) (fun f cdv A outer s H vs Q E hr h => ?_)
  · obtain ⟨z, c, rfl, _⟩ := h; rfl
  · obtain ⟨z, c, rfl, hz, q⟩ := h
    refine ⟨_, (pss_cons (ps_set (i := 2) sc__law_edited.nd rfl (by first | exact Or.inl rfl | exact Or.inr rfl) (pe_op op_mod (pe_op op_fdiv (pe_callTy call_int1 (by rfl) T.m_int (by decide +kernel) (pa_cons (pv 1) pa_nil)) pe_int) (pe_op op_add (pe_callB call_len_str (by rfl) T.m_len PySem.boot_len (pa_cons (pv 0) pa_nil)) pe_int)))
      (pss_cons (ps_set (i := 3) sc__law_edited.nd rfl (by first | exact Or.inl rfl | exact Or.inr rfl) (pe_c c__law_char hr (by decide) (by rfl) (pa_cons (pe_op op_fdiv (pv 1) pe_int) pa_nil)))
      (pss_cons (ps_if (pt_cmpR op_eq (pe_op op_mod (pe_callTy call_int1 (by rfl) T.m_int (by decide +kernel) (pa_cons (pv 1) pa_nil)) pe_int) pe_int (by first | rfl | exact nomark _)) (pss_one (ps_ret (pe_op op_add_str (pe_op op_add_str (pe_slice sl_str (pv 0) po_none (po_some (pv 2))) (pv 3)) (pe_slice sl_str (pv 0) (po_some (pv 2)) po_none)))) pss_nil)
      (pss_cons (ps_if (pt_cmpR op_eq (pe_op op_mod (pe_callTy call_int1 (by rfl) T.m_int (by decide +kernel) (pa_cons (pv 1) pa_nil)) pe_int) pe_int (by first | rfl | exact nomark _)) (pss_one (ps_ret (pe_op op_add_str (pe_slice sl_str (pv 0) po_none (po_some (pv 2))) (pe_slice sl_str (pv 0) (po_some (pe_op op_add (pv 2) pe_int)) po_none)))) pss_nil)
      (pss_cons (ps_if (pt_cmpR op_eq (pe_op op_mod (pe_callTy call_int1 (by rfl) T.m_int (by decide +kernel) (pa_cons (pv 1) pa_nil)) pe_int) pe_int (by first | rfl | exact nomark _)) (pss_one (ps_ret (pe_op op_add_str (pe_op op_add_str (pe_slice sl_str (pv 0) po_none (po_some (pv 2))) (pv 3)) (pe_slice sl_str (pv 0) (po_some (pe_op op_add (pv 2) pe_int)) po_none)))) pss_nil)
      (pss_one (ps_ret (pe_op op_add_str (pe_slice sl_str (pv 0) (po_some (pv 2)) po_none) (pe_slice sl_str (pv 0) po_none (po_some (pv 2))))))))))), ?_⟩
    have cl : ∀ l h, (cutS z l h).length ≤ 100 := fun l h => Nat.le_trans (cutS_length z l h) hz
    have hzS : z.length ≤ sizeLine := small64 (by omega)
    walk_at "go"
    intro ch hch
    walk_at "go"
    refine ite2 (fun c => ?_) (fun c => ?_)
    · walk_at "go"
      refine ⟨small64 (Nat.le_trans (Nat.add_le_add (cl _ _) (Nat.le_of_eq hch)) (by decide)), ?_⟩
      walk_at "go"
      refine ⟨small64 (by rw [PySem.Str.length_append]; exact Nat.le_trans (Nat.add_le_add (Nat.add_le_add (cl _ _) (Nat.le_of_eq hch)) (cl _ _)) (by decide)), ?_⟩
      refine q _ ?_
      rw [PySem.Str.length_append, PySem.Str.length_append]
      exact Nat.le_trans (Nat.add_le_add (Nat.add_le_add (cl _ _) (Nat.le_of_eq hch)) (cl _ _)) (by decide)
    walk_at "go"
    refine ite2 (fun c => ?_) (fun c => ?_)
    · walk_at "go"
      refine ⟨small64 (Nat.le_trans (Nat.add_le_add (cl _ _) (cl _ _)) (by decide)), ?_⟩
      refine q _ ?_
      rw [PySem.Str.length_append]
      exact Nat.le_trans (Nat.add_le_add (cl _ _) (cl _ _)) (by decide)
    walk_at "go"
    refine ite2 (fun c => ?_) (fun c => ?_)
    · walk_at "go"
      refine ⟨small64 (Nat.le_trans (Nat.add_le_add (cl _ _) (Nat.le_of_eq hch)) (by decide)), ?_⟩
      walk_at "go"
      refine ⟨small64 (by rw [PySem.Str.length_append]; exact Nat.le_trans (Nat.add_le_add (Nat.add_le_add (cl _ _) (Nat.le_of_eq hch)) (cl _ _)) (by decide)), ?_⟩
      refine q _ ?_
      rw [PySem.Str.length_append, PySem.Str.length_append]
      exact Nat.le_trans (Nat.add_le_add (Nat.add_le_add (cl _ _) (Nat.le_of_eq hch)) (cl _ _)) (by decide)
    walk_at "go"
    refine ⟨small64 (Nat.le_trans (Nat.add_le_add (cl _ _) (cl _ _)) (by decide)), ?_⟩
    refine q _ ?_
    rw [PySem.Str.length_append]
    exact Nat.le_trans (Nat.add_le_add (cl _ _) (cl _ _)) (by decide)

/-! ### all names -/
def wA : List Str := ["add", "sub", "mul", "div_s", "div_u", "rem_s", "rem_u", "and", "or", "xor", "shl", "shr_s", "shr_u"]
def wB : List Str := ["rotl", "rotr", "eq", "ne", "lt_s", "lt_u", "gt_s", "gt_u", "le_s", "le_u", "ge_s", "ge_u"]
def wC : List Str := ["eqz", "clz", "ctz", "popcnt", "extend8_s", "extend16_s", "load", "load8_s", "load8_u"]
def wD : List Str := ["load16_s", "load16_u", "store", "store8", "store16", "const"]
def wE : List Str := ["i64.load32_s", "i64.load32_u", "i64.store32", "i64.extend32_s", "i32.wrap_i64"]
def wF : List Str := ["i64.extend_i32_s", "i64.extend_i32_u", "local.get", "local.set", "local.tee", "global.get"]
def wG : List Str := ["global.set", "memory.size", "memory.grow", "memory.copy", "memory.fill", "unreachable", "nop"]
def wH : List Str := ["block", "loop", "if", "throw", "br", "br_if", "br_table", "return", "call", "call_indirect"]
def wI : List Str := ["drop", "select", "try_table"]
def wAll : List Str := wA ++ wB ++ wC ++ wD
def namesL : List Str := wAll.map (("i32." : Str) ++ ·) ++ wAll.map (("i64." : Str) ++ ·) ++ wE ++ wF ++ wG ++ wH ++ wI
def sp__law_all_names (K : PySem.W.Frag) (cs : Cs) : Sp := fun vs H Q _ => vs = [] ∧ LstS H Q namesL
theorem c__law_all_names (D : Def K mg "_law_all_names" s__law_all_names []) (T : Tp w K mg cs)  : Cal P w K mg base CX0 1 "_law_all_names" (sp__law_all_names K cs) := by
  refine D.ok sc__law_all_names (fun vs H Q E h => ?_) (fun f cdv A outer s H vs Q E hr h => ?_)
  · exact h.1 ▸ rfl
  · obtain ⟨rfl, q⟩ := h
    refine ⟨_, (pss_cons (ps_set (i := 0) sc__law_all_names.nd rfl (by first | exact Or.inl rfl | exact Or.inr rfl) (pe_lst (pa_cons pe_str (pa_cons pe_str (pa_cons pe_str (pa_cons pe_str (pa_cons pe_str (pa_cons pe_str (pa_cons pe_str (pa_cons pe_str (pa_cons pe_str (pa_cons pe_str (pa_cons pe_str (pa_cons pe_str (pa_cons pe_str pa_nil)))))))))))))))
      (pss_cons (ps_set (i := 0) sc__law_all_names.nd rfl (by first | exact Or.inl rfl | exact Or.inr rfl) (pe_op op_cat (pv 0) (pe_lst (pa_cons pe_str (pa_cons pe_str (pa_cons pe_str (pa_cons pe_str (pa_cons pe_str (pa_cons pe_str (pa_cons pe_str (pa_cons pe_str (pa_cons pe_str (pa_cons pe_str (pa_cons pe_str (pa_cons pe_str pa_nil)))))))))))))))
      (pss_cons (ps_set (i := 0) sc__law_all_names.nd rfl (by first | exact Or.inl rfl | exact Or.inr rfl) (pe_op op_cat (pv 0) (pe_lst (pa_cons pe_str (pa_cons pe_str (pa_cons pe_str (pa_cons pe_str (pa_cons pe_str (pa_cons pe_str (pa_cons pe_str (pa_cons pe_str (pa_cons pe_str pa_nil))))))))))))
      (pss_cons (ps_set (i := 0) sc__law_all_names.nd rfl (by first | exact Or.inl rfl | exact Or.inr rfl) (pe_op op_cat (pv 0) (pe_lst (pa_cons pe_str (pa_cons pe_str (pa_cons pe_str (pa_cons pe_str (pa_cons pe_str (pa_cons pe_str pa_nil)))))))))
      (pss_cons (ps_set (i := 1) sc__law_all_names.nd rfl (by first | exact Or.inl rfl | exact Or.inr rfl) (pe_op op_cat (pe_lc (own := [("word", 2)]) (g := gName 2) (tt := tYes) (by rfl) sc__law_all_names.nd (pi_list (pv 0)) (blkOk_by (own := [("word", 2)]) (N := ["words", "names", "word"]) (sc := defScope s__law_all_names) (by decide +kernel)) (fun _ _ _ _ _ => (pg_name (i := 2) sc__law_all_names.nd rfl (by first | exact Or.inl rfl | exact Or.inr rfl))) (fun _ _ _ _ _ => pts_nil) (fun _ _ _ _ _ => (pe_op op_add_str pe_str (pv 2)))) (pe_lc (own := [("word", 2)]) (g := gName 2) (tt := tYes) (by rfl) sc__law_all_names.nd (pi_list (pv 0)) (blkOk_by (own := [("word", 2)]) (N := ["words", "names", "word"]) (sc := defScope s__law_all_names) (by decide +kernel)) (fun _ _ _ _ _ => (pg_name (i := 2) sc__law_all_names.nd rfl (by first | exact Or.inl rfl | exact Or.inr rfl))) (fun _ _ _ _ _ => pts_nil) (fun _ _ _ _ _ => (pe_op op_add_str pe_str (pv 2))))))
      (pss_cons (ps_set (i := 1) sc__law_all_names.nd rfl (by first | exact Or.inl rfl | exact Or.inr rfl) (pe_op op_cat (pv 1) (pe_lst (pa_cons pe_str (pa_cons pe_str (pa_cons pe_str (pa_cons pe_str (pa_cons pe_str pa_nil))))))))
      (pss_cons (ps_set (i := 1) sc__law_all_names.nd rfl (by first | exact Or.inl rfl | exact Or.inr rfl) (pe_op op_cat (pv 1) (pe_lst (pa_cons pe_str (pa_cons pe_str (pa_cons pe_str (pa_cons pe_str (pa_cons pe_str (pa_cons pe_str pa_nil)))))))))
      (pss_cons (ps_set (i := 1) sc__law_all_names.nd rfl (by first | exact Or.inl rfl | exact Or.inr rfl) (pe_op op_cat (pv 1) (pe_lst (pa_cons pe_str (pa_cons pe_str (pa_cons pe_str (pa_cons pe_str (pa_cons pe_str (pa_cons pe_str (pa_cons pe_str pa_nil))))))))))
      (pss_cons (ps_set (i := 1) sc__law_all_names.nd rfl (by first | exact Or.inl rfl | exact Or.inr rfl) (pe_op op_cat (pv 1) (pe_lst (pa_cons pe_str (pa_cons pe_str (pa_cons pe_str (pa_cons pe_str (pa_cons pe_str (pa_cons pe_str (pa_cons pe_str (pa_cons pe_str (pa_cons pe_str (pa_cons pe_str pa_nil)))))))))))))
      (pss_one (ps_ret (pe_op op_cat (pv 1) (pe_lst (pa_cons pe_str (pa_cons pe_str (pa_cons pe_str pa_nil)))))))))))))))), ?_⟩
    walk_at "go"
    intro p1 h1
    generalize e1 : upd H p1 _ = H1
    obtain ⟨s1, k1⟩ := newE (zs := wA) h1 e1 rfl
    walk_at "go"
    intro p2 h2
    generalize e2 : upd H1 p2 _ = H2
    obtain ⟨s2, k2⟩ := newE (zs := wB) h2 e2 rfl
    refine catE (s2 _ _ k1) k2 (by decide) (fun p3 H3 s3 h3 k3 => ?_)
    walk_at "go"
    intro p4 h4
    generalize e4 : upd H3 p4 _ = H4
    obtain ⟨s4, k4⟩ := newE (zs := wC) h4 e4 rfl
    refine catE (s4 _ _ k3) k4 (by decide) (fun p5 H5 s5 h5 k5 => ?_)
    walk_at "go"
    intro p6 h6
    generalize e6 : upd H5 p6 _ = H6
    obtain ⟨s6, k6⟩ := newE (zs := wD) h6 e6 rfl
    refine catE (s6 _ _ k5) k6 (by decide) (fun p7 H7 s7 h7 k7 => ?_)
    walk_at "go"
    refine ⟨⟨_, SqL.of k7⟩, fun D8 h8 => ?_⟩
    refine lc_mapS (j := 2) (fun z => ("i32." : Str) ++ z) h8 (SqL.of k7) (by decide) (fun z H2 Q2 hz s2 q2 => ?_) (fun H8 s8 k8 => ?_)
    · have hl : ("i32." : Str).length + z.length ≤ sizeLine := small64 (Nat.le_trans ((show ∀ z ∈ (wA ++ wB ++ wC ++ wD), ("i32." : Str).length + z.length ≤ 1000 by decide +kernel) z hz) (by decide))
      walk_at "go"
      exact q2 _ (Same.refl _)
    walk_at "go"
    refine ⟨⟨_, SqL.of (s8 _ _ k7)⟩, fun D9 h9 => ?_⟩
    refine lc_mapS (j := 2) (fun z => ("i64." : Str) ++ z) h9 (SqL.of (s8 _ _ k7)) (by decide) (fun z H2 Q2 hz s2 q2 => ?_) (fun H9 s9 k9 => ?_)
    · have hl : ("i64." : Str).length + z.length ≤ sizeLine := small64 (Nat.le_trans ((show ∀ z ∈ (wA ++ wB ++ wC ++ wD), ("i64." : Str).length + z.length ≤ 1000 by decide +kernel) z hz) (by decide))
      walk_at "go"
      exact q2 _ (Same.refl _)
    refine catE (s9 _ _ k8) k9 (by decide) (fun p10 H10 s10 h10 k10 => ?_)
    walk_at "go"
    intro p11 h11
    generalize e11 : upd H10 p11 _ = H11
    obtain ⟨s11, k11⟩ := newE (zs := wE) h11 e11 rfl
    refine catE (s11 _ _ k10) k11 (by decide) (fun p12 H12 s12 h12 k12 => ?_)
    walk_at "go"
    intro p13 h13
    generalize e13 : upd H12 p13 _ = H13
    obtain ⟨s13, k13⟩ := newE (zs := wF) h13 e13 rfl
    refine catE (s13 _ _ k12) k13 (by decide) (fun p14 H14 s14 h14 k14 => ?_)
    walk_at "go"
    intro p15 h15
    generalize e15 : upd H14 p15 _ = H15
    obtain ⟨s15, k15⟩ := newE (zs := wG) h15 e15 rfl
    refine catE (s15 _ _ k14) k15 (by decide) (fun p16 H16 s16 h16 k16 => ?_)
    walk_at "go"
    intro p17 h17
    generalize e17 : upd H16 p17 _ = H17
    obtain ⟨s17, k17⟩ := newE (zs := wH) h17 e17 rfl
    refine catE (s17 _ _ k16) k17 (by decide) (fun p18 H18 s18 h18 k18 => ?_)
    walk_at "go"
    intro p19 h19
    generalize e19 : upd H18 p19 _ = H19
    obtain ⟨s19, k19⟩ := newE (zs := wI) h19 e19 rfl
    refine catE (s19 _ _ k18) k19 (by decide) (fun p20 H20 s20 h20 k20 => ?_)
    refine q p20 H20 (s1.trans (s2.trans (s3.trans (s4.trans (s5.trans (s6.trans (s7.trans (s8.trans (s9.trans (s10.trans (s11.trans (s12.trans (s13.trans (s14.trans (s15.trans (s16.trans (s17.trans (s18.trans (s19.trans (s20)))))))))))))))))))) ?_ k20
    exact none_of (s1.trans (s2.trans (s3.trans (s4.trans (s5.trans (s6.trans (s7.trans (s8.trans (s9.trans (s10.trans (s11.trans (s12.trans (s13.trans (s14.trans (s15.trans (s16.trans (s17.trans (s18.trans (s19))))))))))))))))))) h20
/-! ### what opcode tells, what is refused -/
def sp__law_refused (K : PySem.W.Frag) (cs : Cs) : Sp := fun vs H Q _ => ∃ z : Str, vs = [.str z] ∧ opcL z = none ∧ ∀ H', Same H H' → Q (.bl true) H'
theorem c__law_refused (D : Def K mg "_law_refused" s__law_refused ["name"]) (T : Tp w K mg cs) (c_opcode : Cal P w K mg base (L2.CX P w) 3 "opcode" (sp_opcode K cs)) : Cal P w K mg base CX0 4 "_law_refused" (sp__law_refused K cs) := by
  refine D.ok sc__law_refused (fun vs H Q E h => ?_) (fun f cdv A outer s H vs Q E hr h => ?_)
  · obtain ⟨z, rfl, _⟩ := h; rfl
  · obtain ⟨z, rfl, hk, q⟩ := h
    refine ⟨_, (pss_cons (ps_try_as (i := 1) (tb := _) (ts := _) (Wout := fun _ _ _ _ => False) rfl rfl sc__law_refused.nd rfl rfl ⟨rfl, by decide, .inl T.g_HostError⟩ takes0 (fun W pn xe tk po => (pss_one (ps_expr (pe_cS c_opcode hr (by decide) (by rfl) (fun σ => passAt tk σ) (pa_cons (pv 0) pa_nil))))) (fun a oe cls d pn hz hf => (pss_cons (ps_if (PW.pt (pw_or (pt_not (pt_val (pe_callB (call_isX hz hf T.e_UnknownInstruction) (by rfl) T.m_isinstance (by decide +kernel) (pa_cons (pv 1) (pa_cons (pe_glob (v := .ref cs.C_UnknownInstruction) (by rfl) T.g_UnknownInstruction rfl) pa_nil))))) (pw_or1 (pt_val (pe_callB (call_isX hz hf T.e_UnknownInstruction) (by rfl) T.m_isinstance (by decide +kernel) (pa_cons (pv 1) (pa_cons (pe_glob (v := .ref cs.C_DecodeError) (by rfl) T.g_DecodeError rfl) pa_nil))))))) (pss_one (ps_ret pe_bl)) pss_nil)
      (pss_one (ps_ret (pe_and (pe_callB call_isiS (by rfl) T.m_isinstance (by decide +kernel) (pa_cons (pe_xf T.e_UnknownInstruction.xf T.no_UnknownInstruction_name hz hf (pv 1)) (pa_cons (pe_bltn (v := .ty "str") (u := .type "str") (by rfl) T.m_str (by decide +kernel) rfl) pa_nil))) (pe_one (pe_cmpR op_eq (pe_xf T.e_UnknownInstruction.xf T.no_UnknownInstruction_name hz hf (pv 1)) (pv 0) (by first | rfl | exact nomark _)))))))))
      (pss_one (ps_ret pe_bl))), ?_⟩
    walk_at "go"
    refine ⟨fun l e => (by rw [hk] at e; cases e), fun _ d Hf s1 hd => ?_⟩
    refine ⟨true, T.exm_UnknownInstruction_HostError, fun _ ea hea => ?_, fun z => Bool.noConfusion z⟩
    walk_at "go"
    refine ⟨_, _, true, d, _, rfl, rfl, rfl, hd, rfl, fun u hu => hu, T.kit_UnknownInstruction_UnknownInstruction, ?_⟩
    walk_at "go"
    refine ⟨_, _, false, d, _, rfl, rfl, rfl, hd, rfl, fun u hu => hu, T.kit_UnknownInstruction_DecodeError, ?_⟩
    walk_at "go"
    refine ⟨d, _, _, rfl, hd, rfl, ?_⟩
    walk_at "go"
    refine ⟨d, _, _, rfl, hd, rfl, ?_⟩
    walk_at "go"
    exact qTS rfl (q _ s1)
def due1 (n : Str) (c : V) : List V := if n = "memory.copy" then [.int 252, .int 10] else [c]
def dueL (n : Str) (c : V) : List V := if n = "memory.fill" then [.int 252, .int 11] else due1 n c
/-- a name that opcode knows, its code as the law tells it -/
def Lst (n : Str) (c : V) : Prop := ∃ l : List Int, opcL n = some l ∧ dueL n c = l.map V.int ∧ (l.length = 1 ∨ l.length = 2) ∧ optS (lookI z_NAMES (l.getD 0 0)) = (if l.length = 2 then .non else .str n)
def sp__law_listed (K : PySem.W.Frag) (cs : Cs) : Sp := fun vs H Q _ => ∃ (n : Str) (c : V), vs = [.str n, c] ∧ Lst n c ∧ ∀ H', Same H H' → Q (.bl true) H'
theorem c__law_listed (D : Def K mg "_law_listed" s__law_listed ["name", "code"]) (T : Tp w K mg cs) (c_opcode : Cal P w K mg base (L2.CX P w) 3 "opcode" (sp_opcode K cs)) (c_instruction_name : Cal P w K mg base CX0 1 "instruction_name" (sp_instruction_name K cs)) : Cal P w K mg base CX0 4 "_law_listed" (sp__law_listed K cs) := by
  refine D.ok sc__law_listed (fun vs H Q E h => ?_) (fun f cdv A outer s H vs Q E hr h => ?_)
  · obtain ⟨n, c, rfl, _⟩ := h; rfl
  · obtain ⟨n, c, rfl, ⟨l, h1, h2, h3, h4⟩, q⟩ := h
    refine ⟨_, (pss_cons (ps_set (i := 2) sc__law_listed.nd rfl (by first | exact Or.inl rfl | exact Or.inr rfl) (pe_lst (pa_cons (pv 1) pa_nil)))
      (C8.pss_cut (ps_if (pt_cmpR op_eq (pv 0) pe_str (by first | rfl | exact nomark _)) (pss_one (ps_set (i := 2) sc__law_listed.nd rfl (by first | exact Or.inl rfl | exact Or.inr rfl) (pe_lst (pa_cons pe_int (pa_cons pe_int pa_nil))))) pss_nil)
      (C8.pss_cut (ps_if (pt_cmpR op_eq (pv 0) pe_str (by first | rfl | exact nomark _)) (pss_one (ps_set (i := 2) sc__law_listed.nd rfl (by first | exact Or.inl rfl | exact Or.inr rfl) (pe_lst (pa_cons pe_int (pa_cons pe_int pa_nil))))) pss_nil)
      (pss_cons (ps_set (i := 3) sc__law_listed.nd rfl (by first | exact Or.inl rfl | exact Or.inr rfl) (pe_cE c_opcode hr (by decide) passL (by rfl) (pa_cons (pv 0) pa_nil)))
      (pss_cons (ps_if (PW.pt (pw_or (pt_not (pt_val (pe_callB call_isi (by rfl) T.m_isinstance (by decide +kernel) (pa_cons (pv 3) (pa_cons (pe_bltn (v := .ty "list") (u := .type "list") (by rfl) T.m_list (by decide +kernel) rfl) pa_nil))))) (pw_or1 (pt_cmpR op_ne (pe_callB call_len_seq (by rfl) T.m_len PySem.boot_len (pa_cons (pv 3) pa_nil)) (pe_callB call_len_seq (by rfl) T.m_len PySem.boot_len (pa_cons (pv 2) pa_nil)) (by first | rfl | exact nomark _))))) (pss_one (ps_ret pe_bl)) pss_nil)
      (pss_cons (ps_for PassesOwn.never rfl (pi_range1 (by rfl) T.m_range (pa_cons (pe_callB call_len_seq (by rfl) T.m_len PySem.boot_len (pa_cons (pv 2) pa_nil)) pa_nil)) (pg_name (i := 4) sc__law_listed.nd rfl (by first | exact Or.inl rfl | exact Or.inr rfl)) (pss_one (ps_if (PW.pt (pw_or (pt_not (pt_val (pe_callB call_isi (by rfl) T.m_isinstance (by decide +kernel) (pa_cons (pe_ix ix_list (pv 3) (pv 4) (fun _ _ => rfl)) (pa_cons (pe_bltn (v := .ty "int") (u := .type "int") (by rfl) T.m_int (by decide +kernel) rfl) pa_nil))))) (pw_or (pt_val (pe_callB call_isi (by rfl) T.m_isinstance (by decide +kernel) (pa_cons (pe_ix ix_list (pv 3) (pv 4) (fun _ _ => rfl)) (pa_cons (pe_bltn (v := .ty "bool") (u := .type "bool") (by rfl) T.m_bool (by decide +kernel) rfl) pa_nil)))) (pw_or1 (pt_cmpR op_ne (pe_ix ix_list (pv 3) (pv 4) (fun _ _ => rfl)) (pe_ix ix_list (pv 2) (pv 4) (fun _ _ => rfl)) (by first | rfl | exact nomark _)))))) (pss_one (ps_ret pe_bl)) pss_nil)))
      (pss_cons (ps_set (i := 5) sc__law_listed.nd rfl (by first | exact Or.inl rfl | exact Or.inr rfl) (pe_c c_instruction_name hr (by decide) (by rfl) (pa_cons (pe_ix ix_list (pv 3) pe_int (fun _ _ => rfl)) pa_nil)))
      (pss_cons (ps_if (pt_cmpR op_eq (pe_callB call_len_seq (by rfl) T.m_len PySem.boot_len (pa_cons (pv 2) pa_nil)) pe_int (by first | rfl | exact nomark _)) (pss_one (ps_ret (pe_cmpR op_isN (pv 5) pe_non (by first | rfl | exact nomark _)))) pss_nil)
      (pss_one (ps_ret (pe_and (pe_callB call_isi (by rfl) T.m_isinstance (by decide +kernel) (pa_cons (pv 5) (pa_cons (pe_bltn (v := .ty "str") (u := .type "str") (by rfl) T.m_str (by decide +kernel) rfl) pa_nil))) (pe_one (pe_cmpR op_eq (pv 5) (pv 0) (by first | rfl | exact nomark _)))))))))))))), ?_⟩
    walk_at "go"
    intro p hp
    refine ⟨fun σ H2 => Same H H2 ∧ ∃ p, H2 p = some (.lst (due1 n c)) ∧ σ = [some (.str n), some c, some (.ref p), none, none, none], ?_, ?_⟩
    · walk_at "go"
      by_cases e : n = "memory.copy"
      · refine ifS e ?_
        walk_at "go"
        intro p2 hp2
        exact ⟨(Same.new hp).trans (Same.new hp2), p2, by rw [upd_same, show due1 n c = _ from if_pos e], rfl⟩
      · refine ifSN e ?_
        exact ⟨Same.new hp, p, by rw [upd_same, show due1 n c = _ from if_neg e], rfl⟩
    rintro _ H2 ⟨s2, p2, k2, rfl⟩
    refine ⟨fun σ H3 => Same H H3 ∧ ∃ p, H3 p = some (.lst (l.map V.int)) ∧ σ = [some (.str n), some c, some (.ref p), none, none, none], ?_, ?_⟩
    · rw [← h2]
      walk_at "go"
      by_cases e : n = "memory.fill"
      · refine ifS e ?_
        walk_at "go"
        intro p3 hp3
        exact ⟨s2.trans (Same.new hp3), p3, by rw [upd_same, show dueL n c = _ from if_pos e], rfl⟩
      · refine ifSN e ?_
        exact ⟨s2, p2, by rw [k2, show dueL n c = _ from if_neg e], rfl⟩
    rintro _ H3 ⟨s3, p3, k3, rfl⟩
    walk_at "go"
    refine ⟨fun l' e p4 H4 s4 k4 => ?_, fun e => by rw [h1] at e; cases e⟩
    rw [h1] at e
    cases e
    have k34 := s4 _ _ k3
    have kL3 : SqL K H4 p3 (l.map V.int) := SqL.of k34
    have kL4 : SqL K H4 p4 (l.map V.int) := SqL.of k4
    have hl2 : l.length ≤ 2 := by omega
    iterate 6 walk_at "go1"
    refine ⟨_, _, rfl, .inl kL3, rfl, _, rfl, ifNe rfl ?_⟩
    refine ⟨_, rfl, p3, _, rfl, .inl kL3, ?_⟩
    rw [List.length_map]
    refine ⟨_, rfl, by omega, by omega, ?_⟩
    refine for_rangeD (lo := 0) (n := l.length) (fun i σ H5 => H5 = H4 ∧ ∃ o, σ = [some (.str n), some c, some (.ref p3), some (.ref p4), o, none]) ⟨rfl, none, rfl⟩ ?_ ?_
    · rintro i _ _ hi ⟨rfl, o, rfl⟩
      rw [Int.zero_add]
      walk_at "go"
      refine ⟨_, rfl⟩
    rintro _ G ⟨rfl, o, rfl⟩
    have hat : atI (l.map V.int) (0 : Int) = some (.int (l.getD 0 0)) := at_ints (k := 0) (by omega)
    walk_at "go"
    refine ⟨_, _, 0, _, rfl, rfl, kL4, hat, ?_⟩
    walk_at "go"
    rw [h4]
    by_cases e : l.length = 2
    · rw [if_pos e]
      refine ifEq (by rw [List.length_map, e]; rfl) ?_
      walk_at "go"
      exact q _ (s3.trans s4)
    · rw [if_neg e]
      refine ifEqN (by rw [List.length_map]; omega) ?_
      walk_at "go"
      exact qTS rfl (q _ (s3.trans s4))
/-! ### rows of names -/
def RowsAt (H : Hp) : List V → List (Int × List Str) → Prop
  | [], [] => True
  | x :: xs, (f, zs) :: rs => (∃ t l, x = .ref t ∧ H t = some (.tup [.int f, .ref l]) ∧ H l = some (.lst (zs.map V.str))) ∧ RowsAt H xs rs
  | _, _ => False
theorem RowsAt.same {H H' : Hp} (s : Same H H') : ∀ {xs : List V} {rs : List (Int × List Str)}, RowsAt H xs rs → RowsAt H' xs rs
  | [], [], _ => True.intro
  | [], _ :: _, h => nomatch h
  | _ :: _, [], h => nomatch h
  | x :: xs, (f, zs) :: rs, ⟨⟨t, l, e, a, b⟩, r⟩ => ⟨⟨t, l, e, s _ _ a, s _ _ b⟩, r.same s⟩
theorem RowsAt.app {H : Hp} : ∀ {xs ys : List V} {rs qs : List (Int × List Str)}, RowsAt H xs rs → RowsAt H ys qs → RowsAt H (xs ++ ys) (rs ++ qs)
  | [], _, [], _, _, h => h
  | [], _, _ :: _, _, h, _ => nomatch h
  | _ :: _, _, [], _, h, _ => nomatch h
  | x :: xs, _, (f, zs) :: rs, _, ⟨a, r⟩, h => ⟨a, r.app h⟩
theorem RowsAt.len {H : Hp} : ∀ {xs : List V} {rs : List (Int × List Str)}, RowsAt H xs rs → xs.length = rs.length
  | [], [], _ => rfl
  | [], _ :: _, h => nomatch h
  | _ :: _, [], h => nomatch h
  | x :: xs, (f, zs) :: rs, ⟨a, r⟩ => congrArg (· + 1) r.len
theorem RowsAt.at {H : Hp} : ∀ {xs : List V} {rs : List (Int × List Str)} {i : Nat} {x : V}, RowsAt H xs rs → xs[i]? = some x → ∃ f zs t l, rs[i]? = some (f, zs) ∧ x = .ref t ∧ H t = some (.tup [.int f, .ref l]) ∧ H l = some (.lst (zs.map V.str))
  | [], _, _, _, _, h => nomatch h
  | _ :: _, [], _, _, h, _ => nomatch h
  | x :: xs, (f, zs) :: rs, 0, y, ⟨⟨t, l, e, a, b⟩, r⟩, h => by
    cases h
    exact ⟨f, zs, t, l, rfl, e, a, b⟩
  | x :: xs, (f, zs) :: rs, i + 1, y, ⟨_, r⟩, h => by
    rw [List.getElem?_cons_succ] at h ⊢
    exact r.at h
theorem newO {H H' : Hp} {p : Addr} {o : HO} (h : H p = none) (e : upd H p o = H') : Same H H' ∧ H' p = some o := by
  subst e
  exact ⟨Same.new h, upd_same⟩
/-- a row laid: its list, its pair -/
theorem rowE {H1 H2 : Hp} {t l : Addr} {f : Int} {zs : List Str} (k1 : H1 l = some (.lst (zs.map V.str))) (s2 : Same H1 H2) (k2 : H2 t = some (.tup [.int f, .ref l])) : RowsAt H2 [.ref t] [(f, zs)] := ⟨⟨t, l, rfl, k2, s2 _ _ k1⟩, True.intro⟩
theorem catV {H : Hp} {l b : Addr} {xs ys : List V} {Q : VK} (hl : H l = some (.lst xs)) (hb : H b = some (.lst ys)) (hn : xs.length + ys.length ≤ 1000) (q : ∀ p H', Same H H' → H p = none → H' p = some (.lst (xs ++ ys)) → Q (.ref p) H') : rCat (.ref l) (.ref b) H Q :=
  ⟨l, b, _, _, rfl, rfl, hl, hb, small64 (by omega), fun p hp => q p _ (Same.new hp) hp upd_same⟩
def cmpL : List Str := ["eqz", "eq", "ne", "lt_s", "lt_u", "gt_s", "gt_u", "le_s", "le_u", "ge_s", "ge_u"]
def cntA : List Str := ["clz", "ctz", "popcnt", "add", "sub", "mul", "div_s", "div_u", "rem_s", "rem_u", "and", "or", "xor"]
def cntB : List Str := ["shl", "shr_s", "shr_u", "rotl", "rotr"]
def row1 : List (Int × List Str) := [(0, (["unreachable", "nop", "block", "loop", "if"] : List Str)), (8, (["throw"] : List Str)), (15, (["return", "call"] : List Str))]
def row2 : List (Int × List Str) := [(12, (["br", "br_if", "br_table"] : List Str)), (17, (["call_indirect"] : List Str)), (26, (["drop", "select"] : List Str))]
def row3 : List (Int × List Str) := [(31, (["try_table", "local.get", "local.set", "local.tee", "global.get", "global.set"] : List Str))]
def row4 : List (Int × List Str) := [(40, (["i32.load", "i64.load"] : List Str)), (44, (["i32.load8_s", "i32.load8_u", "i32.load16_s"] : List Str))]
def row5 : List (Int × List Str) := [(47, (["i32.load16_u", "i64.load8_s", "i64.load8_u", "i64.load16_s", "i64.load16_u"] : List Str))]
def row6 : List (Int × List Str) := [(52, (["i64.load32_s", "i64.load32_u", "i32.store", "i64.store"] : List Str)), (58, (["i32.store8"] : List Str))]
def row7 : List (Int × List Str) := [(59, (["i32.store16", "i64.store8", "i64.store16", "i64.store32", "memory.size", "memory.grow"] : List Str))]
def row8 : List (Int × List Str) := [(65, (["i32.const", "i64.const"] : List Str)), (167, (["i32.wrap_i64"] : List Str)), (172, (["i64.extend_i32_s"] : List Str))]
def row9 : List (Int × List Str) := [(173, (["i64.extend_i32_u"] : List Str)), (192, (["i32.extend8_s", "i32.extend16_s", "i64.extend8_s"] : List Str))]
def row10 : List (Int × List Str) := [(195, (["i64.extend16_s", "i64.extend32_s"] : List Str))]
def rowsP : List (Int × List Str) := [(69, cmpL.map (("i32." : Str) ++ ·)), (80, cmpL.map (("i64." : Str) ++ ·))]
def rowsN : List (Int × List Str) := [(103, (cntA ++ cntB).map (("i32." : Str) ++ ·)), (121, (cntA ++ cntB).map (("i64." : Str) ++ ·))]
def rowsA : List (Int × List Str) := row1 ++ row2 ++ row3 ++ row4 ++ row5 ++ row6 ++ row7 ++ row8 ++ row9 ++ row10
def rowsL : List (Int × List Str) := rowsA ++ rowsP ++ rowsN
def idx : List Str → Str → Nat
  | [], _ => 0
  | z :: r, n => if z = n then 0 else idx r n + 1
theorem idx_at {n : Str} : ∀ {zs : List Str}, n ∈ zs → zs[idx zs n]? = some n ∧ ∀ (m : Nat) (z : Str), m < idx zs n → zs[m]? = some z → ¬ z = n
  | [], h => nomatch h
  | z :: r, h => by
    unfold idx
    by_cases e : z = n
    · rw [if_pos e]
      exact ⟨by rw [e]; rfl, fun m _ hm => absurd hm (Nat.not_lt_zero m)⟩
    · rw [if_neg e]
      have hr : n ∈ r := (List.mem_cons.mp h).resolve_left (fun x => e x.symm)
      obtain ⟨a, b⟩ := idx_at hr
      refine ⟨by rw [List.getElem?_cons_succ]; exact a, fun m z' hm hz => ?_⟩
      cases m with
      | zero => cases hz; exact e
      | succ m => rw [List.getElem?_cons_succ] at hz; exact b m z' (by omega) hz
def opR : List (Int × List Str) → Str → Option Int
  | [], _ => none
  | (f, zs) :: r, n => if n ∈ zs then some (f + idx zs n) else opR r n
theorem opR_skip {n : Str} : ∀ {a b : List (Int × List Str)}, (∀ p ∈ a, ¬ n ∈ p.2) → opR (a ++ b) n = opR b n
  | [], _, _ => rfl
  | (f, zs) :: r, b, h => by
    show (if n ∈ zs then some (f + (idx zs n : Int)) else opR (r ++ b) n) = _
    rw [if_neg (h (f, zs) (List.mem_cons_self ..))]
    exact opR_skip fun p hp => h p (List.mem_cons_of_mem _ hp)
def optI : Option Int → V
  | none => .non
  | some c => .int c
def sp__law_opcode (K : PySem.W.Frag) (cs : Cs) : Sp := fun vs H Q _ => ∃ n : Str, vs = [.str n] ∧ ∀ H', Same H H' → Q (optI (opR rowsL n)) H'
theorem c__law_opcode (D : Def K mg "_law_opcode" s__law_opcode ["name"]) (T : Tp w K mg cs)  : Cal P w K mg base CX0 1 "_law_opcode" (sp__law_opcode K cs) := by
  refine D.ok sc__law_opcode (fun vs H Q E h => ?_) (fun f cdv A outer s H vs Q E hr h => ?_)
  · obtain ⟨n, rfl, _⟩ := h; rfl
  · obtain ⟨n, rfl, q⟩ := h
    refine ⟨_, (C8.pss_cut (ps_set (i := 1) sc__law_opcode.nd rfl (by first | exact Or.inl rfl | exact Or.inr rfl) (pe_lst (pa_cons (pe_tup (pa_cons pe_int (pa_cons (pe_lst (pa_cons pe_str (pa_cons pe_str (pa_cons pe_str (pa_cons pe_str (pa_cons pe_str pa_nil)))))) pa_nil))) (pa_cons (pe_tup (pa_cons pe_int (pa_cons (pe_lst (pa_cons pe_str pa_nil)) pa_nil))) (pa_cons (pe_tup (pa_cons pe_int (pa_cons (pe_lst (pa_cons pe_str (pa_cons pe_str pa_nil))) pa_nil))) pa_nil)))))
      (C8.pss_cut (ps_set (i := 1) sc__law_opcode.nd rfl (by first | exact Or.inl rfl | exact Or.inr rfl) (pe_op op_cat (pv 1) (pe_lst (pa_cons (pe_tup (pa_cons pe_int (pa_cons (pe_lst (pa_cons pe_str (pa_cons pe_str (pa_cons pe_str pa_nil)))) pa_nil))) (pa_cons (pe_tup (pa_cons pe_int (pa_cons (pe_lst (pa_cons pe_str pa_nil)) pa_nil))) (pa_cons (pe_tup (pa_cons pe_int (pa_cons (pe_lst (pa_cons pe_str (pa_cons pe_str pa_nil))) pa_nil))) pa_nil))))))
      (C8.pss_cut (ps_set (i := 1) sc__law_opcode.nd rfl (by first | exact Or.inl rfl | exact Or.inr rfl) (pe_op op_cat (pv 1) (pe_lst (pa_cons (pe_tup (pa_cons pe_int (pa_cons (pe_lst (pa_cons pe_str (pa_cons pe_str (pa_cons pe_str (pa_cons pe_str (pa_cons pe_str (pa_cons pe_str pa_nil))))))) pa_nil))) pa_nil))))
      (C8.pss_cut (ps_set (i := 1) sc__law_opcode.nd rfl (by first | exact Or.inl rfl | exact Or.inr rfl) (pe_op op_cat (pv 1) (pe_lst (pa_cons (pe_tup (pa_cons pe_int (pa_cons (pe_lst (pa_cons pe_str (pa_cons pe_str pa_nil))) pa_nil))) (pa_cons (pe_tup (pa_cons pe_int (pa_cons (pe_lst (pa_cons pe_str (pa_cons pe_str (pa_cons pe_str pa_nil)))) pa_nil))) pa_nil)))))
      (C8.pss_cut (ps_set (i := 1) sc__law_opcode.nd rfl (by first | exact Or.inl rfl | exact Or.inr rfl) (pe_op op_cat (pv 1) (pe_lst (pa_cons (pe_tup (pa_cons pe_int (pa_cons (pe_lst (pa_cons pe_str (pa_cons pe_str (pa_cons pe_str (pa_cons pe_str (pa_cons pe_str pa_nil)))))) pa_nil))) pa_nil))))
      (C8.pss_cut (ps_set (i := 1) sc__law_opcode.nd rfl (by first | exact Or.inl rfl | exact Or.inr rfl) (pe_op op_cat (pv 1) (pe_lst (pa_cons (pe_tup (pa_cons pe_int (pa_cons (pe_lst (pa_cons pe_str (pa_cons pe_str (pa_cons pe_str (pa_cons pe_str pa_nil))))) pa_nil))) (pa_cons (pe_tup (pa_cons pe_int (pa_cons (pe_lst (pa_cons pe_str pa_nil)) pa_nil))) pa_nil)))))
      (C8.pss_cut (ps_set (i := 1) sc__law_opcode.nd rfl (by first | exact Or.inl rfl | exact Or.inr rfl) (pe_op op_cat (pv 1) (pe_lst (pa_cons (pe_tup (pa_cons pe_int (pa_cons (pe_lst (pa_cons pe_str (pa_cons pe_str (pa_cons pe_str (pa_cons pe_str (pa_cons pe_str (pa_cons pe_str pa_nil))))))) pa_nil))) pa_nil))))
      (C8.pss_cut (ps_set (i := 1) sc__law_opcode.nd rfl (by first | exact Or.inl rfl | exact Or.inr rfl) (pe_op op_cat (pv 1) (pe_lst (pa_cons (pe_tup (pa_cons pe_int (pa_cons (pe_lst (pa_cons pe_str (pa_cons pe_str pa_nil))) pa_nil))) (pa_cons (pe_tup (pa_cons pe_int (pa_cons (pe_lst (pa_cons pe_str pa_nil)) pa_nil))) (pa_cons (pe_tup (pa_cons pe_int (pa_cons (pe_lst (pa_cons pe_str pa_nil)) pa_nil))) pa_nil))))))
      (C8.pss_cut (ps_set (i := 1) sc__law_opcode.nd rfl (by first | exact Or.inl rfl | exact Or.inr rfl) (pe_op op_cat (pv 1) (pe_lst (pa_cons (pe_tup (pa_cons pe_int (pa_cons (pe_lst (pa_cons pe_str pa_nil)) pa_nil))) (pa_cons (pe_tup (pa_cons pe_int (pa_cons (pe_lst (pa_cons pe_str (pa_cons pe_str (pa_cons pe_str pa_nil)))) pa_nil))) pa_nil)))))
      (C8.pss_cut (ps_set (i := 1) sc__law_opcode.nd rfl (by first | exact Or.inl rfl | exact Or.inr rfl) (pe_op op_cat (pv 1) (pe_lst (pa_cons (pe_tup (pa_cons pe_int (pa_cons (pe_lst (pa_cons pe_str (pa_cons pe_str pa_nil))) pa_nil))) pa_nil))))
      (C8.pss_cut (ps_set (i := 2) sc__law_opcode.nd rfl (by first | exact Or.inl rfl | exact Or.inr rfl) (pe_lst (pa_cons pe_str (pa_cons pe_str (pa_cons pe_str (pa_cons pe_str (pa_cons pe_str (pa_cons pe_str (pa_cons pe_str (pa_cons pe_str (pa_cons pe_str (pa_cons pe_str (pa_cons pe_str pa_nil)))))))))))))
      (C8.pss_cut (ps_set (i := 3) sc__law_opcode.nd rfl (by first | exact Or.inl rfl | exact Or.inr rfl) (pe_lst (pa_cons pe_str (pa_cons pe_str (pa_cons pe_str (pa_cons pe_str (pa_cons pe_str (pa_cons pe_str (pa_cons pe_str (pa_cons pe_str (pa_cons pe_str (pa_cons pe_str (pa_cons pe_str (pa_cons pe_str (pa_cons pe_str pa_nil)))))))))))))))
      (C8.pss_cut (ps_set (i := 3) sc__law_opcode.nd rfl (by first | exact Or.inl rfl | exact Or.inr rfl) (pe_op op_cat (pv 3) (pe_lst (pa_cons pe_str (pa_cons pe_str (pa_cons pe_str (pa_cons pe_str (pa_cons pe_str pa_nil))))))))
      (C8.pss_cut (ps_set (i := 1) sc__law_opcode.nd rfl (by first | exact Or.inl rfl | exact Or.inr rfl) (pe_op op_cat (pv 1) (pe_lst (pa_cons (pe_tup (pa_cons pe_int (pa_cons (pe_lc (own := [("word", 6)]) (g := gName 6) (tt := tYes) (by rfl) sc__law_opcode.nd (pi_list (pv 2)) (blkOk_by (own := [("word", 6)]) (N := ["name", "rows", "compared", "counted", "first", "names", "word"]) (sc := defScope s__law_opcode) (by decide +kernel)) (fun _ _ _ _ _ => (pg_name (i := 6) sc__law_opcode.nd rfl (by first | exact Or.inl rfl | exact Or.inr rfl))) (fun _ _ _ _ _ => pts_nil) (fun _ _ _ _ _ => (pe_op op_add_str pe_str (pv 6)))) pa_nil))) (pa_cons (pe_tup (pa_cons pe_int (pa_cons (pe_lc (own := [("word", 6)]) (g := gName 6) (tt := tYes) (by rfl) sc__law_opcode.nd (pi_list (pv 2)) (blkOk_by (own := [("word", 6)]) (N := ["name", "rows", "compared", "counted", "first", "names", "word"]) (sc := defScope s__law_opcode) (by decide +kernel)) (fun _ _ _ _ _ => (pg_name (i := 6) sc__law_opcode.nd rfl (by first | exact Or.inl rfl | exact Or.inr rfl))) (fun _ _ _ _ _ => pts_nil) (fun _ _ _ _ _ => (pe_op op_add_str pe_str (pv 6)))) pa_nil))) pa_nil)))))
      (C8.pss_cut (ps_set (i := 1) sc__law_opcode.nd rfl (by first | exact Or.inl rfl | exact Or.inr rfl) (pe_op op_cat (pv 1) (pe_lst (pa_cons (pe_tup (pa_cons pe_int (pa_cons (pe_lc (own := [("word", 6)]) (g := gName 6) (tt := tYes) (by rfl) sc__law_opcode.nd (pi_list (pv 3)) (blkOk_by (own := [("word", 6)]) (N := ["name", "rows", "compared", "counted", "first", "names", "word"]) (sc := defScope s__law_opcode) (by decide +kernel)) (fun _ _ _ _ _ => (pg_name (i := 6) sc__law_opcode.nd rfl (by first | exact Or.inl rfl | exact Or.inr rfl))) (fun _ _ _ _ _ => pts_nil) (fun _ _ _ _ _ => (pe_op op_add_str pe_str (pv 6)))) pa_nil))) (pa_cons (pe_tup (pa_cons pe_int (pa_cons (pe_lc (own := [("word", 6)]) (g := gName 6) (tt := tYes) (by rfl) sc__law_opcode.nd (pi_list (pv 3)) (blkOk_by (own := [("word", 6)]) (N := ["name", "rows", "compared", "counted", "first", "names", "word"]) (sc := defScope s__law_opcode) (by decide +kernel)) (fun _ _ _ _ _ => (pg_name (i := 6) sc__law_opcode.nd rfl (by first | exact Or.inl rfl | exact Or.inr rfl))) (fun _ _ _ _ _ => pts_nil) (fun _ _ _ _ _ => (pe_op op_add_str pe_str (pv 6)))) pa_nil))) pa_nil)))))
      (pss_cons (ps_for PassesOwn.never rfl (pi_list (pv 1)) (pg_tup (by rfl) (pgs_cons (pg_name (i := 4) sc__law_opcode.nd rfl (by first | exact Or.inl rfl | exact Or.inr rfl)) (pgs_cons (pg_name (i := 5) sc__law_opcode.nd rfl (by first | exact Or.inl rfl | exact Or.inr rfl)) pgs_nil))) (pss_one (ps_if (pt_cmpR op_in_seq (pv 0) (pv 5) (by first | rfl | exact nomark _)) (pss_one (ps_ret (pe_op op_add (pv 4) (pe_bm PySem.F.plainAttrs_list PySem.F.slot_list_index PySem.F.type_list_index mt_index (pv 5) (pa_cons (pv 0) pa_nil))))) pss_nil)))
      (pss_one (ps_ret pe_non)))))))))))))))))), ?_⟩
    refine ⟨fun σ H2 => Same H H2 ∧ ∃ (p : Addr) (xs : List V), H2 p = some (.lst xs) ∧ RowsAt H2 xs (row1) ∧ σ = [some (.str n), some (.ref p), none, none, none, none, none], ?_, ?_⟩
    · walk_at "go"
      intro p1 h1
      generalize e1 : upd H p1 _ = H1
      obtain ⟨s1, k1⟩ := newE (zs := ["unreachable", "nop", "block", "loop", "if"]) h1 e1 rfl
      clear h1 e1
      walk_at "go"
      intro p2 h2
      generalize e2 : upd H1 p2 _ = H2
      obtain ⟨s2, k2⟩ := newO h2 e2
      clear h2 e2
      have A := rowE (f := 0) k1 s2 k2
      walk_at "go"
      intro p3 h3
      generalize e3 : upd H2 p3 _ = H3
      obtain ⟨s3, k3⟩ := newE (zs := ["throw"]) h3 e3 rfl
      clear h3 e3
      walk_at "go"
      intro p4 h4
      generalize e4 : upd H3 p4 _ = H4
      obtain ⟨s4, k4⟩ := newO h4 e4
      clear h4 e4
      have A := (A.same (s3.trans s4)).app (rowE (f := 8) k3 s4 k4)
      walk_at "go"
      intro p5 h5
      generalize e5 : upd H4 p5 _ = H5
      obtain ⟨s5, k5⟩ := newE (zs := ["return", "call"]) h5 e5 rfl
      clear h5 e5
      walk_at "go"
      intro p6 h6
      generalize e6 : upd H5 p6 _ = H6
      obtain ⟨s6, k6⟩ := newO h6 e6
      clear h6 e6
      have A := (A.same (s5.trans s6)).app (rowE (f := 15) k5 s6 k6)
      walk_at "go"
      intro p7 h7
      generalize e7 : upd H6 p7 _ = H7
      obtain ⟨s7, k7⟩ := newO h7 e7
      clear h7 e7
      have A := A.same s7
      exact ⟨(s1.trans (s2.trans (s3.trans (s4.trans (s5.trans (s6.trans (s7))))))), p7, _, k7, A, rfl⟩
    rintro _ G ⟨s0, p, xs, kC, C, rfl⟩
    refine ⟨fun σ H2 => Same H H2 ∧ ∃ (p : Addr) (xs : List V), H2 p = some (.lst xs) ∧ RowsAt H2 xs (row1 ++ row2) ∧ σ = [some (.str n), some (.ref p), none, none, none, none, none], ?_, ?_⟩
    · walk_at "go"
      intro p1 h1
      generalize e1 : upd G p1 _ = H1
      obtain ⟨s1, k1⟩ := newE (zs := ["br", "br_if", "br_table"]) h1 e1 rfl
      clear h1 e1
      walk_at "go"
      intro p2 h2
      generalize e2 : upd H1 p2 _ = H2
      obtain ⟨s2, k2⟩ := newO h2 e2
      clear h2 e2
      have A := rowE (f := 12) k1 s2 k2
      walk_at "go"
      intro p3 h3
      generalize e3 : upd H2 p3 _ = H3
      obtain ⟨s3, k3⟩ := newE (zs := ["call_indirect"]) h3 e3 rfl
      clear h3 e3
      walk_at "go"
      intro p4 h4
      generalize e4 : upd H3 p4 _ = H4
      obtain ⟨s4, k4⟩ := newO h4 e4
      clear h4 e4
      have A := (A.same (s3.trans s4)).app (rowE (f := 17) k3 s4 k4)
      walk_at "go"
      intro p5 h5
      generalize e5 : upd H4 p5 _ = H5
      obtain ⟨s5, k5⟩ := newE (zs := ["drop", "select"]) h5 e5 rfl
      clear h5 e5
      walk_at "go"
      intro p6 h6
      generalize e6 : upd H5 p6 _ = H6
      obtain ⟨s6, k6⟩ := newO h6 e6
      clear h6 e6
      have A := (A.same (s5.trans s6)).app (rowE (f := 26) k5 s6 k6)
      walk_at "go"
      intro p7 h7
      generalize e7 : upd H6 p7 _ = H7
      obtain ⟨s7, k7⟩ := newO h7 e7
      clear h7 e7
      have A := A.same s7
      refine catV ((s1.trans (s2.trans (s3.trans (s4.trans (s5.trans (s6.trans (s7))))))) _ _ kC) k7 (by rw [C.len]; exact Nat.le_of_ble_eq_true rfl) (fun p G' s h k => ?_)
      exact ⟨s0.trans ((s1.trans (s2.trans (s3.trans (s4.trans (s5.trans (s6.trans (s7))))))).trans s), p, _, k, ((C.same (s1.trans (s2.trans (s3.trans (s4.trans (s5.trans (s6.trans (s7)))))))).app A).same s, rfl⟩
    rintro _ G ⟨s0, p, xs, kC, C, rfl⟩
    refine ⟨fun σ H2 => Same H H2 ∧ ∃ (p : Addr) (xs : List V), H2 p = some (.lst xs) ∧ RowsAt H2 xs (row1 ++ row2 ++ row3) ∧ σ = [some (.str n), some (.ref p), none, none, none, none, none], ?_, ?_⟩
    · walk_at "go"
      intro p1 h1
      generalize e1 : upd G p1 _ = H1
      obtain ⟨s1, k1⟩ := newE (zs := ["try_table", "local.get", "local.set", "local.tee", "global.get", "global.set"]) h1 e1 rfl
      clear h1 e1
      walk_at "go"
      intro p2 h2
      generalize e2 : upd H1 p2 _ = H2
      obtain ⟨s2, k2⟩ := newO h2 e2
      clear h2 e2
      have A := rowE (f := 31) k1 s2 k2
      walk_at "go"
      intro p3 h3
      generalize e3 : upd H2 p3 _ = H3
      obtain ⟨s3, k3⟩ := newO h3 e3
      clear h3 e3
      have A := A.same s3
      refine catV ((s1.trans (s2.trans (s3))) _ _ kC) k3 (by rw [C.len]; exact Nat.le_of_ble_eq_true rfl) (fun p G' s h k => ?_)
      exact ⟨s0.trans ((s1.trans (s2.trans (s3))).trans s), p, _, k, ((C.same (s1.trans (s2.trans (s3)))).app A).same s, rfl⟩
    rintro _ G ⟨s0, p, xs, kC, C, rfl⟩
    refine ⟨fun σ H2 => Same H H2 ∧ ∃ (p : Addr) (xs : List V), H2 p = some (.lst xs) ∧ RowsAt H2 xs (row1 ++ row2 ++ row3 ++ row4) ∧ σ = [some (.str n), some (.ref p), none, none, none, none, none], ?_, ?_⟩
    · walk_at "go"
      intro p1 h1
      generalize e1 : upd G p1 _ = H1
      obtain ⟨s1, k1⟩ := newE (zs := ["i32.load", "i64.load"]) h1 e1 rfl
      clear h1 e1
      walk_at "go"
      intro p2 h2
      generalize e2 : upd H1 p2 _ = H2
      obtain ⟨s2, k2⟩ := newO h2 e2
      clear h2 e2
      have A := rowE (f := 40) k1 s2 k2
      walk_at "go"
      intro p3 h3
      generalize e3 : upd H2 p3 _ = H3
      obtain ⟨s3, k3⟩ := newE (zs := ["i32.load8_s", "i32.load8_u", "i32.load16_s"]) h3 e3 rfl
      clear h3 e3
      walk_at "go"
      intro p4 h4
      generalize e4 : upd H3 p4 _ = H4
      obtain ⟨s4, k4⟩ := newO h4 e4
      clear h4 e4
      have A := (A.same (s3.trans s4)).app (rowE (f := 44) k3 s4 k4)
      walk_at "go"
      intro p5 h5
      generalize e5 : upd H4 p5 _ = H5
      obtain ⟨s5, k5⟩ := newO h5 e5
      clear h5 e5
      have A := A.same s5
      refine catV ((s1.trans (s2.trans (s3.trans (s4.trans (s5))))) _ _ kC) k5 (by rw [C.len]; exact Nat.le_of_ble_eq_true rfl) (fun p G' s h k => ?_)
      exact ⟨s0.trans ((s1.trans (s2.trans (s3.trans (s4.trans (s5))))).trans s), p, _, k, ((C.same (s1.trans (s2.trans (s3.trans (s4.trans (s5)))))).app A).same s, rfl⟩
    rintro _ G ⟨s0, p, xs, kC, C, rfl⟩
    refine ⟨fun σ H2 => Same H H2 ∧ ∃ (p : Addr) (xs : List V), H2 p = some (.lst xs) ∧ RowsAt H2 xs (row1 ++ row2 ++ row3 ++ row4 ++ row5) ∧ σ = [some (.str n), some (.ref p), none, none, none, none, none], ?_, ?_⟩
    · walk_at "go"
      intro p1 h1
      generalize e1 : upd G p1 _ = H1
      obtain ⟨s1, k1⟩ := newE (zs := ["i32.load16_u", "i64.load8_s", "i64.load8_u", "i64.load16_s", "i64.load16_u"]) h1 e1 rfl
      clear h1 e1
      walk_at "go"
      intro p2 h2
      generalize e2 : upd H1 p2 _ = H2
      obtain ⟨s2, k2⟩ := newO h2 e2
      clear h2 e2
      have A := rowE (f := 47) k1 s2 k2
      walk_at "go"
      intro p3 h3
      generalize e3 : upd H2 p3 _ = H3
      obtain ⟨s3, k3⟩ := newO h3 e3
      clear h3 e3
      have A := A.same s3
      refine catV ((s1.trans (s2.trans (s3))) _ _ kC) k3 (by rw [C.len]; exact Nat.le_of_ble_eq_true rfl) (fun p G' s h k => ?_)
      exact ⟨s0.trans ((s1.trans (s2.trans (s3))).trans s), p, _, k, ((C.same (s1.trans (s2.trans (s3)))).app A).same s, rfl⟩
    rintro _ G ⟨s0, p, xs, kC, C, rfl⟩
    refine ⟨fun σ H2 => Same H H2 ∧ ∃ (p : Addr) (xs : List V), H2 p = some (.lst xs) ∧ RowsAt H2 xs (row1 ++ row2 ++ row3 ++ row4 ++ row5 ++ row6) ∧ σ = [some (.str n), some (.ref p), none, none, none, none, none], ?_, ?_⟩
    · walk_at "go"
      intro p1 h1
      generalize e1 : upd G p1 _ = H1
      obtain ⟨s1, k1⟩ := newE (zs := ["i64.load32_s", "i64.load32_u", "i32.store", "i64.store"]) h1 e1 rfl
      clear h1 e1
      walk_at "go"
      intro p2 h2
      generalize e2 : upd H1 p2 _ = H2
      obtain ⟨s2, k2⟩ := newO h2 e2
      clear h2 e2
      have A := rowE (f := 52) k1 s2 k2
      walk_at "go"
      intro p3 h3
      generalize e3 : upd H2 p3 _ = H3
      obtain ⟨s3, k3⟩ := newE (zs := ["i32.store8"]) h3 e3 rfl
      clear h3 e3
      walk_at "go"
      intro p4 h4
      generalize e4 : upd H3 p4 _ = H4
      obtain ⟨s4, k4⟩ := newO h4 e4
      clear h4 e4
      have A := (A.same (s3.trans s4)).app (rowE (f := 58) k3 s4 k4)
      walk_at "go"
      intro p5 h5
      generalize e5 : upd H4 p5 _ = H5
      obtain ⟨s5, k5⟩ := newO h5 e5
      clear h5 e5
      have A := A.same s5
      refine catV ((s1.trans (s2.trans (s3.trans (s4.trans (s5))))) _ _ kC) k5 (by rw [C.len]; exact Nat.le_of_ble_eq_true rfl) (fun p G' s h k => ?_)
      exact ⟨s0.trans ((s1.trans (s2.trans (s3.trans (s4.trans (s5))))).trans s), p, _, k, ((C.same (s1.trans (s2.trans (s3.trans (s4.trans (s5)))))).app A).same s, rfl⟩
    rintro _ G ⟨s0, p, xs, kC, C, rfl⟩
    refine ⟨fun σ H2 => Same H H2 ∧ ∃ (p : Addr) (xs : List V), H2 p = some (.lst xs) ∧ RowsAt H2 xs (row1 ++ row2 ++ row3 ++ row4 ++ row5 ++ row6 ++ row7) ∧ σ = [some (.str n), some (.ref p), none, none, none, none, none], ?_, ?_⟩
    · walk_at "go"
      intro p1 h1
      generalize e1 : upd G p1 _ = H1
      obtain ⟨s1, k1⟩ := newE (zs := ["i32.store16", "i64.store8", "i64.store16", "i64.store32", "memory.size", "memory.grow"]) h1 e1 rfl
      clear h1 e1
      walk_at "go"
      intro p2 h2
      generalize e2 : upd H1 p2 _ = H2
      obtain ⟨s2, k2⟩ := newO h2 e2
      clear h2 e2
      have A := rowE (f := 59) k1 s2 k2
      walk_at "go"
      intro p3 h3
      generalize e3 : upd H2 p3 _ = H3
      obtain ⟨s3, k3⟩ := newO h3 e3
      clear h3 e3
      have A := A.same s3
      refine catV ((s1.trans (s2.trans (s3))) _ _ kC) k3 (by rw [C.len]; exact Nat.le_of_ble_eq_true rfl) (fun p G' s h k => ?_)
      exact ⟨s0.trans ((s1.trans (s2.trans (s3))).trans s), p, _, k, ((C.same (s1.trans (s2.trans (s3)))).app A).same s, rfl⟩
    rintro _ G ⟨s0, p, xs, kC, C, rfl⟩
    refine ⟨fun σ H2 => Same H H2 ∧ ∃ (p : Addr) (xs : List V), H2 p = some (.lst xs) ∧ RowsAt H2 xs (row1 ++ row2 ++ row3 ++ row4 ++ row5 ++ row6 ++ row7 ++ row8) ∧ σ = [some (.str n), some (.ref p), none, none, none, none, none], ?_, ?_⟩
    · walk_at "go"
      intro p1 h1
      generalize e1 : upd G p1 _ = H1
      obtain ⟨s1, k1⟩ := newE (zs := ["i32.const", "i64.const"]) h1 e1 rfl
      clear h1 e1
      walk_at "go"
      intro p2 h2
      generalize e2 : upd H1 p2 _ = H2
      obtain ⟨s2, k2⟩ := newO h2 e2
      clear h2 e2
      have A := rowE (f := 65) k1 s2 k2
      walk_at "go"
      intro p3 h3
      generalize e3 : upd H2 p3 _ = H3
      obtain ⟨s3, k3⟩ := newE (zs := ["i32.wrap_i64"]) h3 e3 rfl
      clear h3 e3
      walk_at "go"
      intro p4 h4
      generalize e4 : upd H3 p4 _ = H4
      obtain ⟨s4, k4⟩ := newO h4 e4
      clear h4 e4
      have A := (A.same (s3.trans s4)).app (rowE (f := 167) k3 s4 k4)
      walk_at "go"
      intro p5 h5
      generalize e5 : upd H4 p5 _ = H5
      obtain ⟨s5, k5⟩ := newE (zs := ["i64.extend_i32_s"]) h5 e5 rfl
      clear h5 e5
      walk_at "go"
      intro p6 h6
      generalize e6 : upd H5 p6 _ = H6
      obtain ⟨s6, k6⟩ := newO h6 e6
      clear h6 e6
      have A := (A.same (s5.trans s6)).app (rowE (f := 172) k5 s6 k6)
      walk_at "go"
      intro p7 h7
      generalize e7 : upd H6 p7 _ = H7
      obtain ⟨s7, k7⟩ := newO h7 e7
      clear h7 e7
      have A := A.same s7
      refine catV ((s1.trans (s2.trans (s3.trans (s4.trans (s5.trans (s6.trans (s7))))))) _ _ kC) k7 (by rw [C.len]; exact Nat.le_of_ble_eq_true rfl) (fun p G' s h k => ?_)
      exact ⟨s0.trans ((s1.trans (s2.trans (s3.trans (s4.trans (s5.trans (s6.trans (s7))))))).trans s), p, _, k, ((C.same (s1.trans (s2.trans (s3.trans (s4.trans (s5.trans (s6.trans (s7)))))))).app A).same s, rfl⟩
    rintro _ G ⟨s0, p, xs, kC, C, rfl⟩
    refine ⟨fun σ H2 => Same H H2 ∧ ∃ (p : Addr) (xs : List V), H2 p = some (.lst xs) ∧ RowsAt H2 xs (row1 ++ row2 ++ row3 ++ row4 ++ row5 ++ row6 ++ row7 ++ row8 ++ row9) ∧ σ = [some (.str n), some (.ref p), none, none, none, none, none], ?_, ?_⟩
    · walk_at "go"
      intro p1 h1
      generalize e1 : upd G p1 _ = H1
      obtain ⟨s1, k1⟩ := newE (zs := ["i64.extend_i32_u"]) h1 e1 rfl
      clear h1 e1
      walk_at "go"
      intro p2 h2
      generalize e2 : upd H1 p2 _ = H2
      obtain ⟨s2, k2⟩ := newO h2 e2
      clear h2 e2
      have A := rowE (f := 173) k1 s2 k2
      walk_at "go"
      intro p3 h3
      generalize e3 : upd H2 p3 _ = H3
      obtain ⟨s3, k3⟩ := newE (zs := ["i32.extend8_s", "i32.extend16_s", "i64.extend8_s"]) h3 e3 rfl
      clear h3 e3
      walk_at "go"
      intro p4 h4
      generalize e4 : upd H3 p4 _ = H4
      obtain ⟨s4, k4⟩ := newO h4 e4
      clear h4 e4
      have A := (A.same (s3.trans s4)).app (rowE (f := 192) k3 s4 k4)
      walk_at "go"
      intro p5 h5
      generalize e5 : upd H4 p5 _ = H5
      obtain ⟨s5, k5⟩ := newO h5 e5
      clear h5 e5
      have A := A.same s5
      refine catV ((s1.trans (s2.trans (s3.trans (s4.trans (s5))))) _ _ kC) k5 (by rw [C.len]; exact Nat.le_of_ble_eq_true rfl) (fun p G' s h k => ?_)
      exact ⟨s0.trans ((s1.trans (s2.trans (s3.trans (s4.trans (s5))))).trans s), p, _, k, ((C.same (s1.trans (s2.trans (s3.trans (s4.trans (s5)))))).app A).same s, rfl⟩
    rintro _ G ⟨s0, p, xs, kC, C, rfl⟩
    refine ⟨fun σ H2 => Same H H2 ∧ ∃ (p : Addr) (xs : List V), H2 p = some (.lst xs) ∧ RowsAt H2 xs (row1 ++ row2 ++ row3 ++ row4 ++ row5 ++ row6 ++ row7 ++ row8 ++ row9 ++ row10) ∧ σ = [some (.str n), some (.ref p), none, none, none, none, none], ?_, ?_⟩
    · walk_at "go"
      intro p1 h1
      generalize e1 : upd G p1 _ = H1
      obtain ⟨s1, k1⟩ := newE (zs := ["i64.extend16_s", "i64.extend32_s"]) h1 e1 rfl
      clear h1 e1
      walk_at "go"
      intro p2 h2
      generalize e2 : upd H1 p2 _ = H2
      obtain ⟨s2, k2⟩ := newO h2 e2
      clear h2 e2
      have A := rowE (f := 195) k1 s2 k2
      walk_at "go"
      intro p3 h3
      generalize e3 : upd H2 p3 _ = H3
      obtain ⟨s3, k3⟩ := newO h3 e3
      clear h3 e3
      have A := A.same s3
      refine catV ((s1.trans (s2.trans (s3))) _ _ kC) k3 (by rw [C.len]; exact Nat.le_of_ble_eq_true rfl) (fun p G' s h k => ?_)
      exact ⟨s0.trans ((s1.trans (s2.trans (s3))).trans s), p, _, k, ((C.same (s1.trans (s2.trans (s3)))).app A).same s, rfl⟩
    rintro _ G ⟨s0, p, xs, kC, C, rfl⟩
    change RowsAt G xs rowsA at C
    refine ⟨fun σ H2 => Same H H2 ∧ ∃ (p : Addr) (xs : List V) (pc : Addr), H2 p = some (.lst xs) ∧ RowsAt H2 xs (rowsA) ∧ H2 pc = some (.lst (cmpL.map V.str)) ∧ σ = [some (.str n), some (.ref p), some (.ref pc), none, none, none, none], ?_, ?_⟩
    · walk_at "go"
      intro p1 h1
      generalize e1 : upd G p1 _ = H1
      obtain ⟨s1, k1⟩ := newE (zs := cmpL) h1 e1 rfl
      clear h1 e1
      exact ⟨s0.trans s1, p, xs, p1, s1 _ _ kC, C.same s1, k1, rfl⟩
    rintro _ G ⟨s0, p, xs, pc, kC, C, kP, rfl⟩
    refine ⟨fun σ H2 => Same H H2 ∧ ∃ (p : Addr) (xs : List V) (pc pn : Addr), H2 p = some (.lst xs) ∧ RowsAt H2 xs (rowsA) ∧ H2 pc = some (.lst (cmpL.map V.str)) ∧ H2 pn = some (.lst (cntA.map V.str)) ∧ σ = [some (.str n), some (.ref p), some (.ref pc), some (.ref pn), none, none, none], ?_, ?_⟩
    · walk_at "go"
      intro p1 h1
      generalize e1 : upd G p1 _ = H1
      obtain ⟨s1, k1⟩ := newE (zs := cntA) h1 e1 rfl
      clear h1 e1
      exact ⟨s0.trans s1, p, xs, pc, p1, s1 _ _ kC, C.same s1, s1 _ _ kP, k1, rfl⟩
    rintro _ G ⟨s0, p, xs, pc, pn, kC, C, kP, kN, rfl⟩
    refine ⟨fun σ H2 => Same H H2 ∧ ∃ (p : Addr) (xs : List V) (pc pn : Addr), H2 p = some (.lst xs) ∧ RowsAt H2 xs (rowsA) ∧ H2 pc = some (.lst (cmpL.map V.str)) ∧ H2 pn = some (.lst ((cntA ++ cntB).map V.str)) ∧ σ = [some (.str n), some (.ref p), some (.ref pc), some (.ref pn), none, none, none], ?_, ?_⟩
    · walk_at "go"
      intro p1 h1
      generalize e1 : upd G p1 _ = H1
      obtain ⟨s1, k1⟩ := newE (zs := cntB) h1 e1 rfl
      clear h1 e1
      refine catE (s1 _ _ kN) k1 (by decide) (fun p2 G' s h k => ?_)
      have s := s1.trans s
      exact ⟨s0.trans s, p, xs, pc, p2, s _ _ kC, C.same s, s _ _ kP, k, rfl⟩
    rintro _ G ⟨s0, p, xs, pc, pn, kC, C, kP, kN, rfl⟩
    refine ⟨fun σ H2 => Same H H2 ∧ ∃ (p : Addr) (xs : List V) (pc pn : Addr), H2 p = some (.lst xs) ∧ RowsAt H2 xs (rowsA ++ rowsP) ∧ H2 pc = some (.lst (cmpL.map V.str)) ∧ H2 pn = some (.lst ((cntA ++ cntB).map V.str)) ∧ σ = [some (.str n), some (.ref p), some (.ref pc), some (.ref pn), none, none, none], ?_, ?_⟩
    · walk_at "go"
      have kS1 := kP
      refine ⟨⟨_, SqL.of kS1⟩, fun p1 h1 => ?_⟩
      refine lc_mapS (j := 6) (fun z => ("i32." : Str) ++ z) h1 (SqL.of kS1) (by decide) (fun z H2 Q2 hz s2 q2 => ?_) (fun H1 s1 k1 => ?_)
      · have hl : ("i32." : Str).length + z.length ≤ sizeLine := small64 (Nat.le_trans ((show ∀ z ∈ cmpL, ("i32." : Str).length + z.length ≤ 1000 by decide +kernel) z hz) (by decide))
        walk_at "go"
        exact q2 _ (Same.refl _)
      walk_at "go"
      intro p2 h2
      generalize e2 : upd H1 p2 _ = H2
      obtain ⟨s2, k2⟩ := newO h2 e2
      clear h2 e2
      have A := rowE (f := 69) k1 s2 k2
      walk_at "go"
      have kS3 := (s1.trans (s2)) _ _ kP
      refine ⟨⟨_, SqL.of kS3⟩, fun p3 h3 => ?_⟩
      refine lc_mapS (j := 6) (fun z => ("i64." : Str) ++ z) h3 (SqL.of kS3) (by decide) (fun z H2 Q2 hz s2 q2 => ?_) (fun H3 s3 k3 => ?_)
      · have hl : ("i64." : Str).length + z.length ≤ sizeLine := small64 (Nat.le_trans ((show ∀ z ∈ cmpL, ("i64." : Str).length + z.length ≤ 1000 by decide +kernel) z hz) (by decide))
        walk_at "go"
        exact q2 _ (Same.refl _)
      walk_at "go"
      intro p4 h4
      generalize e4 : upd H3 p4 _ = H4
      obtain ⟨s4, k4⟩ := newO h4 e4
      clear h4 e4
      have A := (A.same (s3.trans s4)).app (rowE (f := 80) k3 s4 k4)
      walk_at "go"
      intro p5 h5
      generalize e5 : upd H4 p5 _ = H5
      obtain ⟨s5, k5⟩ := newO h5 e5
      clear h5 e5
      have A := A.same s5
      refine catV ((s1.trans (s2.trans (s3.trans (s4.trans (s5))))) _ _ kC) k5 (by rw [C.len]; exact Nat.le_of_ble_eq_true rfl) (fun p G' s h k => ?_)
      have sT := (s1.trans (s2.trans (s3.trans (s4.trans (s5))))).trans s
      exact ⟨s0.trans sT, p, _, pc, pn, k, ((C.same (s1.trans (s2.trans (s3.trans (s4.trans (s5)))))).app A).same s, sT _ _ kP, sT _ _ kN, rfl⟩
    rintro _ G ⟨s0, p, xs, pc, pn, kC, C, kP, kN, rfl⟩
    refine ⟨fun σ H2 => Same H H2 ∧ ∃ (p : Addr) (xs : List V) (pc pn : Addr), H2 p = some (.lst xs) ∧ RowsAt H2 xs (rowsA ++ rowsP ++ rowsN) ∧ H2 pc = some (.lst (cmpL.map V.str)) ∧ H2 pn = some (.lst ((cntA ++ cntB).map V.str)) ∧ σ = [some (.str n), some (.ref p), some (.ref pc), some (.ref pn), none, none, none], ?_, ?_⟩
    · walk_at "go"
      have kS1 := kN
      refine ⟨⟨_, SqL.of kS1⟩, fun p1 h1 => ?_⟩
      refine lc_mapS (j := 6) (fun z => ("i32." : Str) ++ z) h1 (SqL.of kS1) (by decide) (fun z H2 Q2 hz s2 q2 => ?_) (fun H1 s1 k1 => ?_)
      · have hl : ("i32." : Str).length + z.length ≤ sizeLine := small64 (Nat.le_trans ((show ∀ z ∈ (cntA ++ cntB), ("i32." : Str).length + z.length ≤ 1000 by decide +kernel) z hz) (by decide))
        walk_at "go"
        exact q2 _ (Same.refl _)
      walk_at "go"
      intro p2 h2
      generalize e2 : upd H1 p2 _ = H2
      obtain ⟨s2, k2⟩ := newO h2 e2
      clear h2 e2
      have A := rowE (f := 103) k1 s2 k2
      walk_at "go"
      have kS3 := (s1.trans (s2)) _ _ kN
      refine ⟨⟨_, SqL.of kS3⟩, fun p3 h3 => ?_⟩
      refine lc_mapS (j := 6) (fun z => ("i64." : Str) ++ z) h3 (SqL.of kS3) (by decide) (fun z H2 Q2 hz s2 q2 => ?_) (fun H3 s3 k3 => ?_)
      · have hl : ("i64." : Str).length + z.length ≤ sizeLine := small64 (Nat.le_trans ((show ∀ z ∈ (cntA ++ cntB), ("i64." : Str).length + z.length ≤ 1000 by decide +kernel) z hz) (by decide))
        walk_at "go"
        exact q2 _ (Same.refl _)
      walk_at "go"
      intro p4 h4
      generalize e4 : upd H3 p4 _ = H4
      obtain ⟨s4, k4⟩ := newO h4 e4
      clear h4 e4
      have A := (A.same (s3.trans s4)).app (rowE (f := 121) k3 s4 k4)
      walk_at "go"
      intro p5 h5
      generalize e5 : upd H4 p5 _ = H5
      obtain ⟨s5, k5⟩ := newO h5 e5
      clear h5 e5
      have A := A.same s5
      refine catV ((s1.trans (s2.trans (s3.trans (s4.trans (s5))))) _ _ kC) k5 (by rw [C.len]; exact Nat.le_of_ble_eq_true rfl) (fun p G' s h k => ?_)
      have sT := (s1.trans (s2.trans (s3.trans (s4.trans (s5))))).trans s
      exact ⟨s0.trans sT, p, _, pc, pn, k, ((C.same (s1.trans (s2.trans (s3.trans (s4.trans (s5)))))).app A).same s, sT _ _ kP, sT _ _ kN, rfl⟩
    rintro _ G ⟨s0, p, xs, pc, pn, kC, C, kP, kN, rfl⟩
    change RowsAt G xs rowsL at C
    walk_at "go"
    refine ⟨⟨_, SqL.of kC⟩, ?_⟩
    refine for_listD (K := K) (a := p) (xs := xs) (fun j σ H2 => H2 = G ∧ (∀ r ∈ rowsL.take j, ¬ n ∈ r.2) ∧ ∃ o4 o5, σ = [some (.str n), some (.ref p), some (.ref pc), some (.ref pn), o4, o5, none]) ⟨rfl, (fun _ h => nomatch h), _, _, rfl⟩ (fun j σ H2 _ h => SqL.of (h.1 ▸ kC)) ?_ ?_
    · rintro j v _ G hj ⟨rfl, no, o4, o5, rfl⟩
      obtain ⟨f1, zs, t, l, hr, rfl, kt, kl⟩ := C.at hj
      have kl' : SqL K G l (zs.map V.str) := SqL.of kl
      refine ⟨t, _, rfl, SqT.of kt, rfl, ?_⟩
      walk_at "go"
      refine ⟨flat_strs _, ?_⟩
      by_cases c : n ∈ zs
      · have ev : inV (.str n) (zs.map V.str) = true := (inV_mem n zs).mpr c
        simp only [ev]
        obtain ⟨i1, i2⟩ := idx_at c
        have e : opR rowsL n = some (f1 + (idx zs n : Int)) := by
          have hj' := (List.getElem?_eq_some_iff.mp hr)
          obtain ⟨hlt, heq⟩ := hj'
          have sp : rowsL = rowsL.take j ++ (f1, zs) :: rowsL.drop (j + 1) := by rw [← heq, List.getElem_cons_drop, List.take_append_drop]
          rw [sp, opR_skip no]
          exact if_pos c
        rw [e] at q
        walk_at "go"
        refine ⟨.inl ⟨rfl, _, kl'⟩, ?_⟩
        walk_at "go"
        refine ⟨l, zs.map V.str, .str n, idx zs n, .str n, rfl, rfl, kl', rfl, flat_strs _, by rw [List.getElem?_map, i1]; rfl, (beq_self_eq_true n : (n == n) = true), fun m z' hm hz => ?_, ?_⟩
        · rw [List.getElem?_map] at hz
          cases e2 : zs[m]? with
          | none => rw [e2] at hz; cases hz
          | some y =>
            rw [e2] at hz
            cases hz
            exact (beq_eq_false_iff_ne.mpr (i2 m y hm e2) : (y == n) = false)
        · walk_at "go"
          exact q _ s0
      · have ev : inV (.str n) (zs.map V.str) = false := Bool.eq_false_iff.mpr fun z => c ((inV_mem n zs).mp z)
        simp only [ev]
        walk_at "go"
        refine ⟨fun r hr' => ?_, _, _, rfl⟩
        rw [List.take_add_one, hr] at hr'
        rcases List.mem_append.mp hr' with hr' | hr'
        · exact no r hr'
        · rw [List.mem_singleton.mp hr']; exact c
    rintro _ G ⟨rfl, no, o4, o5, rfl⟩
    rw [C.len, List.take_length] at no
    have e : opR rowsL n = none := by
      have := opR_skip (b := []) no
      rw [List.append_nil] at this
      exact this
    rw [e] at q
    exact q _ s0
def sp_lawK (K : PySem.W.Frag) : Sp := fun vs H Q _ => ∃ (a : Addr) (ns : List Int), vs = [.ref a] ∧ SqL K H a (ns.map V.int) ∧ ns.length ≤ 63 ∧ ∀ H', Q (.bl true) H'
abbrev sp_law (K : PySem.W.Frag) (_ : Cs) : Sp := sp_lawK K
/-- the law's codes -/
def codesL : List V := namesL.map fun n => optI (opR rowsL n)
def lstB (n : Str) (c : V) : Bool := match opcL n with
  | some l => decide (dueL n c = l.map V.int) && (decide (l.length = 1) || decide (l.length = 2)) && decide (optS (lookI z_NAMES (l.getD 0 0)) = (if l.length = 2 then .non else .str n))
  | none => false
theorem lst_of {n : Str} {c : V} (h : lstB n c = true) : Lst n c := by
  unfold lstB at h
  cases e : opcL n with
  | none => rw [e] at h; cases h
  | some l =>
    rw [e] at h
    have h' : (decide (dueL n c = l.map V.int) && (decide (l.length = 1) || decide (l.length = 2)) && decide (optS (lookI z_NAMES (l.getD 0 0)) = (if l.length = 2 then .non else .str n))) = true := h
    rw [Bool.and_eq_true, Bool.and_eq_true, Bool.or_eq_true] at h'
    exact ⟨l, e, of_decide_eq_true h'.1.1, h'.1.2.imp of_decide_eq_true of_decide_eq_true, of_decide_eq_true h'.2⟩
theorem names_listedB : ∀ n ∈ namesL, lstB n (optI (opR rowsL n)) = true := by decide +kernel
theorem names_listed : ∀ n ∈ namesL, Lst n (optI (opR rowsL n)) := fun n h => lst_of (names_listedB n h)
theorem names_short : ∀ z ∈ namesL, z.length ≤ 30 := by decide +kernel
theorem names_len : 0 < namesL.length ∧ namesL.length ≤ 200 := by decide +kernel
theorem codeI_mem {t : List (Int × Str)} {n : Str} {c : Int} (h : codeI t n = some c) : n ∈ t.map (·.2) := by
  unfold codeI at h
  cases e : t.find? fun p => decide (p.2 = n) with
  | none => rw [e] at h; cases h
  | some p =>
    have h1 := List.find?_some e
    exact List.mem_map.mpr ⟨p, List.mem_of_find?_eq_some e, of_decide_eq_true h1⟩
theorem tabs_in1 : ∀ z ∈ z_NAMES.map (·.2), z ∈ namesL := by decide +kernel
theorem tabs_in2 : ∀ z ∈ z_PREFIXED_NAMES.map (·.2), z ∈ namesL := by decide +kernel
theorem names_all (z : Str) (h : ¬ z ∈ namesL) : opcL z = none := by
  unfold opcL
  cases e : codeI z_NAMES z with
  | some c => exact absurd (tabs_in1 z (codeI_mem e)) h
  | none =>
    show (codeI z_PREFIXED_NAMES z).map _ = none
    cases e2 : codeI z_PREFIXED_NAMES z with
    | some c => exact absurd (tabs_in2 z (codeI_mem e2)) h
    | none => rfl
theorem codes_all : ∀ c : Nat, c < 256 → inV (.int c) codesL = true ∨ lookI z_NAMES c = none := by decide +kernel
theorem codes_flat : codesL.all flatV = true := by decide +kernel
theorem c_law {f : Addr} {fd : FuncData} (D : L2.Fun K "law" "law" s_law f fd) (T : Tp w K mg cs) (c__law_all_names : Cal P w K mg base CX0 1 "_law_all_names" (sp__law_all_names K cs)) (c__law_cell : Cal P w K mg base CX0 1 "_law_cell" (sp__law_cell K cs)) (c__law_edited : Cal P w K mg base CX0 2 "_law_edited" (sp__law_edited K cs)) (c__law_refused : Cal P w K mg base CX0 4 "_law_refused" (sp__law_refused K cs)) (c__law_opcode : Cal P w K mg base CX0 1 "_law_opcode" (sp__law_opcode K cs)) (c__law_listed : Cal P w K mg base CX0 4 "_law_listed" (sp__law_listed K cs)) (c_instruction_name : Cal P w K mg base CX0 1 "instruction_name" (sp_instruction_name K cs)) : FnOk P w K mg base CX0 5 f fd ["script"] (sp_law K cs) := by
  refine D.ok sc_law (fun vs H Q E h => ?_) (fun cdv A outer s H vs Q E hr h => ?_)
  · obtain ⟨a, ns, rfl, _⟩ := h; rfl
  · obtain ⟨a, ns, rfl, hS, hlen, q⟩ := h
    refine ⟨_, (pss_cons (ps_set (i := 1) sc_law.nd rfl (by first | exact Or.inl rfl | exact Or.inr rfl) (pe_c0 c__law_all_names hr (by decide) (by rfl)))
      (pss_cons (ps_set (i := 2) sc_law.nd rfl (by first | exact Or.inl rfl | exact Or.inr rfl) (pe_lst pa_nil))
      (pss_cons (ps_for PassesOwn.never rfl (pi_list (pv 1)) (pg_name (i := 3) sc_law.nd rfl (by first | exact Or.inl rfl | exact Or.inr rfl)) (pss_cons (ps_expr (pe_bm PySem.F.plainAttrs_list PySem.F.slot_list_append PySem.F.type_list_append mt_append (pv 2) (pa_cons (pe_c c__law_opcode hr (by decide) (by rfl) (pa_cons (pv 3) pa_nil)) pa_nil)))
      (pss_one (ps_if (pt_not (pt_val (pe_c c__law_listed hr (by decide) (by rfl) (pa_cons (pv 3) (pa_cons (pe_ix ix_list (pv 2) (pe_un un_neg pe_int) (fun _ _ => rfl)) pa_nil))))) (pss_one (ps_ret pe_bl)) pss_nil))))
      (pss_cons (ps_for PassesOwn.never rfl (pi_range1 (by rfl) T.m_range (pa_cons pe_int pa_nil)) (pg_name (i := 4) sc_law.nd rfl (by first | exact Or.inl rfl | exact Or.inr rfl)) (pss_one (ps_if (PW.pt (pw_and (pt_cmpR op_notIn_seq (pv 4) (pv 2) (by first | rfl | exact nomark _)) (pw_and1 (pt_cmpR op_notN (pe_c c_instruction_name hr (by decide) (by rfl) (pa_cons (pv 4) pa_nil)) pe_non (by first | rfl | exact nomark _))))) (pss_one (ps_ret pe_bl)) pss_nil)))
      (pss_cons (ps_for PassesOwn.never rfl (pi_range1 (by rfl) T.m_range (pa_cons (pe_callB (call_min2 rfl) (by rfl) T.m_min (by decide +kernel) (pa_cons (pe_callB call_len_seq (by rfl) T.m_len PySem.boot_len (pa_cons (pv 0) pa_nil)) (pa_cons pe_int pa_nil))) pa_nil)) (pg_name (i := 5) sc_law.nd rfl (by first | exact Or.inl rfl | exact Or.inr rfl)) (pss_cons (ps_set (i := 6) sc_law.nd rfl (by first | exact Or.inl rfl | exact Or.inr rfl) (pe_c c__law_cell hr (by decide) (by rfl) (pa_cons (pv 0) (pa_cons (pv 5) pa_nil))))
      (pss_cons (ps_set (i := 3) sc_law.nd rfl (by first | exact Or.inl rfl | exact Or.inr rfl) (pe_c c__law_edited hr (by decide) (by rfl) (pa_cons (pe_ix ix_list (pv 1) (pe_op op_mod (pe_op op_fdiv (pe_callTy call_int1 (by rfl) T.m_int (by decide +kernel) (pa_cons (pv 6) pa_nil)) pe_int) (pe_callB call_len_seq (by rfl) T.m_len PySem.boot_len (pa_cons (pv 1) pa_nil))) (fun _ _ => rfl)) (pa_cons (pe_op op_add (pe_op op_fdiv (pv 6) pe_int) (pv 5)) pa_nil))))
      (pss_cons (ps_if (PW.pt (pw_and (pt_cmpR op_in_seq (pv 3) (pv 1) (by first | rfl | exact nomark _)) (pw_and1 (pt_not (pt_val (pe_c c__law_listed hr (by decide) (by rfl) (pa_cons (pv 3) (pa_cons (pe_ix ix_list (pv 2) (pe_bm PySem.F.plainAttrs_list PySem.F.slot_list_index PySem.F.type_list_index mt_index (pv 1) (pa_cons (pv 3) pa_nil)) (fun _ _ => rfl)) pa_nil)))))))) (pss_one (ps_ret pe_bl)) pss_nil)
      (pss_one (ps_if (PW.pt (pw_and (pt_cmpR op_notIn_seq (pv 3) (pv 1) (by first | rfl | exact nomark _)) (pw_and1 (pt_not (pt_val (pe_c c__law_refused hr (by decide) (by rfl) (pa_cons (pv 3) pa_nil))))))) (pss_one (ps_ret pe_bl)) pss_nil))))))
      (pss_one (ps_ret (pe_and (pe_c c__law_refused hr (by decide) (by rfl) (pa_cons pe_str pa_nil)) (pe_and (pe_c c__law_refused hr (by decide) (by rfl) (pa_cons pe_str pa_nil)) (pe_one (pe_c c__law_refused hr (by decide) (by rfl) (pa_cons pe_str pa_nil)))))))))))), ?_⟩
    walk_at "go"
    intro p1 H1 s1 h1 k1
    walk_at "go"
    intro p2 h2
    generalize e2 : upd H1 p2 _ = H2
    obtain ⟨s2, k2⟩ := newO h2 e2
    walk_at "go"
    refine ⟨⟨_, SqL.of (s2 _ _ k1)⟩, ?_⟩
    refine for_listD (K := K) (a := p1) (xs := namesL.map V.str) (fun j σ H3 => Same H1 H3 ∧ H3 p2 = some (.lst (codesL.take j)) ∧ ∃ o3, σ = [some (.ref a), some (.ref p1), some (.ref p2), o3, none, none, none]) ⟨s2, k2, _, rfl⟩ (fun j σ H3 _ h => SqL.of (h.1 _ _ k1)) ?_ ?_
    · rintro j v _ H3 hj ⟨s3, k3, o3, rfl⟩
      rw [List.getElem?_map] at hj
      obtain ⟨n, hn, rfl⟩ : ∃ n, namesL[j]? = some n ∧ v = .str n := by
        cases e : namesL[j]? with
        | none => rw [e] at hj; cases hj
        | some n => rw [e] at hj; cases hj; exact ⟨n, rfl, rfl⟩
      have hL := names_listed n (List.mem_of_getElem? hn)
      have hc : codesL[j]? = some (optI (opR rowsL n)) := by unfold codesL; rw [List.getElem?_map, hn]; rfl
      have hlt : j < codesL.length := (List.getElem?_eq_some_iff.mp hc).1
      have hcl : codesL.length ≤ 200 := by unfold codesL; rw [List.length_map]; exact names_len.2
      walk_at "go"
      refine ⟨.inl ⟨rfl, _, SqL.of k3⟩, ?_⟩
      walk_at "go"
      intro H4 s4
      have k4 := s4 _ _ k3
      have s14 := s3.trans s4
      generalize optI (opR rowsL n) = cd at hL hc ⊢
      refine ⟨_, _, _, rfl, rfl, k4, (by rw [List.length_take]; exact small64' (by omega)), ?_⟩
      generalize e5 : upd H4 p2 _ = H5
      have s15 : Same H1 H5 := fun b o e => by rw [← e5, upd_ne (ne_of_none e h2)]; exact s14 _ _ e
      have k5 : H5 p2 = some (.lst (codesL.take (j + 1))) := by rw [← e5, upd_same, List.take_add_one, hc]; rfl
      have k5L : SqL K H5 p2 (codesL.take j ++ [cd]) := SqL.of (by rw [← e5, upd_same])
      walk_at "go"
      refine ⟨p2, _, -1, _, rfl, rfl, k5L, atI_last _ _, ?_⟩
      walk_at "go"
      intro H6 s6
      walk_at "go"
      exact ⟨s15.trans s6, s6 _ _ k5, _, rfl⟩
    rintro _ H3 ⟨s3, k3, o3, rfl⟩
    have kc : H3 p2 = some (.lst codesL) := by
      rw [k3]
      refine congrArg (fun z => some (HO.lst z)) (List.take_of_length_le ?_)
      unfold codesL
      rw [List.length_map, List.length_map]; exact Nat.le_refl _
    clear k3
    walk_at "go"
    refine for_rangeD (lo := 0) (n := 256) (fun i σ H4 => H4 = H3 ∧ ∃ o3 o4, σ = [some (.ref a), some (.ref p1), some (.ref p2), o3, o4, none, none]) ⟨rfl, _, _, rfl⟩ ?_ ?_
    · rintro i _ _ hi ⟨rfl, o3, o4, rfl⟩
      rw [Int.zero_add]
      have hcL := SqL.of (K := K) kc
      walk_at "go"
      rcases codes_all i hi with e | e
      · simp only [e]
        walk_at "go"
        exact ⟨_, _, rfl⟩
      · cases hin : inV (.int (i : Int)) codesL with
        | true =>
          simp only [hin]
          walk_at "go"
          exact ⟨_, _, rfl⟩
        | false =>
          simp only [hin]
          walk_at "go"
          rw [e]
          walk_at "go"
          exact ⟨_, _, rfl⟩
    rintro _ H4 ⟨rfl, o3, o4, rfl⟩
    have kcL := SqL.of (K := K) kc
    have k1L : SqL K H4 p1 (namesL.map V.str) := SqL.of (s3 _ _ k1)
    have hS4 := (s1.trans s3).seq hS
    walk_at "go"
    obtain ⟨n, en, hn⟩ : ∃ n : Nat, (if 63 < (((ns.map V.int).length : Nat) : Int) then 63 else (((ns.map V.int).length : Nat) : Int)).toNat = n ∧ n ≤ 100 := ⟨_, rfl, by split <;> omega⟩
    rw [en]
    refine for_rangeD (lo := 0) (n := n) (fun i σ H5 => Same H4 H5 ∧ ∃ o3 o5 o6, σ = [some (.ref a), some (.ref p1), some (.ref p2), o3, o4, o5, o6]) ⟨Same.refl _, _, _, _, rfl⟩ ?_ ?_
    · rintro i _ H5 hi ⟨s5, o3, o5, o6, rfl⟩
      rw [Int.zero_add]
      have hS5 := s5.seq hS4
      have k15 : SqL K H5 p1 (namesL.map V.str) := s5.seq k1L
      walk_at "go"
      refine ⟨a, ns, i, rfl, hS5, ?_⟩
      generalize ns.getD i 0 = cell
      have hN0 := names_len.1
      have hNl : (((namesL.map V.str).length : Nat) : Int) = ((namesL.length : Nat) : Int) := by rw [List.length_map]
      walk_at "go"
      obtain ⟨j, ej, hj⟩ : ∃ j : Nat, cell / 7 % (((namesL.map V.str).length : Nat) : Int) = (j : Int) ∧ j < namesL.length := by
        rw [hNl]
        have a1 := Int.emod_nonneg (cell / 7) (show ((namesL.length : Nat) : Int) ≠ 0 by omega)
        have a2 := Int.emod_lt_of_pos (cell / 7) (show (0 : Int) < ((namesL.length : Nat) : Int) by omega)
        exact ⟨(cell / 7 % ((namesL.length : Nat) : Int)).toNat, by omega, by omega⟩
      show rIxL K (.ref p1) (.int (cell / 7 % (((namesL.map V.str).length : Nat) : Int))) H5 _
      rw [ej]
      obtain ⟨z, hz, hat⟩ := at_strs hj
      have hzl : z.length ≤ 100 := Nat.le_trans (names_short z hz) (by decide)
      refine ⟨_, _, j, _, rfl, rfl, k15, hat, ?_⟩
      walk_at "go"
      intro z' hz'
      walk_at "go"
      by_cases c : z' ∈ namesL
      · have ev : inV (.str z') (namesL.map V.str) = true := (inV_mem z' namesL).mpr c
        simp only [ev]
        obtain ⟨i1, i2⟩ := idx_at c
        have hcz : codesL[idx namesL z']? = some (optI (opR rowsL z')) := by unfold codesL; rw [List.getElem?_map, i1]; rfl
        have kc5 : SqL K H5 p2 codesL := SqL.of (s5 _ _ kc)
        walk_at "go"
        refine ⟨.inl ⟨rfl, _, k15⟩, ?_⟩
        walk_at "go"
        refine ⟨p1, namesL.map V.str, .str z', idx namesL z', .str z', rfl, rfl, k15, rfl, flat_strs _, by rw [List.getElem?_map, i1]; rfl, (beq_self_eq_true z' : (z' == z') = true), fun m y hm hy => ?_, ?_⟩
        · rw [List.getElem?_map] at hy
          cases e2 : namesL[m]? with
          | none => rw [e2] at hy; cases hy
          | some y' =>
            rw [e2] at hy
            cases hy
            exact (beq_eq_false_iff_ne.mpr (i2 m y' hm e2) : (y' == z') = false)
        refine ⟨p2, _, (idx namesL z' : Nat), _, rfl, rfl, kc5, atI_nat hcz, ?_⟩
        walk_at "go"
        refine ⟨names_listed z' c, fun H6 s6 => ?_⟩
        have k16 : SqL K H6 p1 (namesL.map V.str) := s6.seq k15
        walk_at "go"
        simp only [ev]
        walk_at "go"
        exact ⟨s5.trans s6, _, _, _, rfl⟩
      · have ev : inV (.str z') (namesL.map V.str) = false := Bool.eq_false_iff.mpr fun z => c ((inV_mem z' namesL).mp z)
        simp only [ev]
        walk_at "go"
        simp only [ev]
        have hno := names_all z' c
        walk_at "go"
        intro H6 s6
        walk_at "go"
        exact ⟨s5.trans s6, _, _, _, rfl⟩
    rintro _ H5 ⟨s5, o3, o5, o6, rfl⟩
    walk_at "go"
    intro H6 s6
    walk_at "go"
    intro H7 s7
    walk_at "go"
    intro H8 s8
    exact q _
end
theorem all_mk {l : PySem.W.OpenLaw} {w : World} {K : PySem.W.Frag} {h : Heap} {mg : Str → Option Value} {fa f0 f1 f2 f3 f4 f5 f6 f7 f8 f9 : Addr} (X : K.In h) (G : h.Ns mainGlobals mg) (hfa : mg "law" = some (.ref fa))
    {od0 an0 od1 an1 od2 an2 od3 an3 od4 an4 od5 an5 od6 an6 od7 an7 od8 an8 od9 an9 : Option Addr} {sl0 sl1 sl2 sl3 sl4 sl5 sl6 sl7 sl8 sl9 : Array (Option Value)} {oc0 kV0 dc0 pm0 cd0 ct0 oc1 kV1 dc1 pm1 cd1 ct1 oc2 kV2 dc2 pm2 cd2 ct2 oc3 kV3 dc3 pm3 cd3 ct3 oc4 kV4 dc4 pm4 cd4 ct4 oc5 kV5 dc5 pm5 cd5 ct5 oc6 kV6 dc6 pm6 cd6 ct6 oc7 kV7 dc7 pm7 cd7 ct7 oc8 kV8 dc8 pm8 cd8 ct8 oc9 kV9 dc9 pm9 cd9 ct9 : Value}
    (a0 : PySem.W.nsIn K mainGlobals "opcode" = some (some (.ref f0))) (l0 : K.lookup f0 = some ⟨oc0, od0, .func (PySem.W.fnOf "opcode" "opcode" (defArgs s_opcode) (defBody s_opcode) (defScope s_opcode) .none kV0 dc0 pm0 an0 cd0 ct0), sl0⟩) (c0 : PySem.W.codeIn K cd0 "opcode" = true) (k0 : PySem.W.keepIn K (.ref f0) = true)
    (a1 : PySem.W.nsIn K mainGlobals "instruction_name" = some (some (.ref f1))) (l1 : K.lookup f1 = some ⟨oc1, od1, .func (PySem.W.fnOf "instruction_name" "instruction_name" (defArgs s_instruction_name) (defBody s_instruction_name) (defScope s_instruction_name) .none kV1 dc1 pm1 an1 cd1 ct1), sl1⟩) (c1 : PySem.W.codeIn K cd1 "instruction_name" = true) (k1 : PySem.W.keepIn K (.ref f1) = true)
    (a2 : PySem.W.nsIn K mainGlobals "_law_cell" = some (some (.ref f2))) (l2 : K.lookup f2 = some ⟨oc2, od2, .func (PySem.W.fnOf "_law_cell" "_law_cell" (defArgs s__law_cell) (defBody s__law_cell) (defScope s__law_cell) .none kV2 dc2 pm2 an2 cd2 ct2), sl2⟩) (c2 : PySem.W.codeIn K cd2 "_law_cell" = true) (k2 : PySem.W.keepIn K (.ref f2) = true)
    (a3 : PySem.W.nsIn K mainGlobals "_law_opcode" = some (some (.ref f3))) (l3 : K.lookup f3 = some ⟨oc3, od3, .func (PySem.W.fnOf "_law_opcode" "_law_opcode" (defArgs s__law_opcode) (defBody s__law_opcode) (defScope s__law_opcode) .none kV3 dc3 pm3 an3 cd3 ct3), sl3⟩) (c3 : PySem.W.codeIn K cd3 "_law_opcode" = true) (k3 : PySem.W.keepIn K (.ref f3) = true)
    (a4 : PySem.W.nsIn K mainGlobals "_law_all_names" = some (some (.ref f4))) (l4 : K.lookup f4 = some ⟨oc4, od4, .func (PySem.W.fnOf "_law_all_names" "_law_all_names" (defArgs s__law_all_names) (defBody s__law_all_names) (defScope s__law_all_names) .none kV4 dc4 pm4 an4 cd4 ct4), sl4⟩) (c4 : PySem.W.codeIn K cd4 "_law_all_names" = true) (k4 : PySem.W.keepIn K (.ref f4) = true)
    (a5 : PySem.W.nsIn K mainGlobals "_law_char" = some (some (.ref f5))) (l5 : K.lookup f5 = some ⟨oc5, od5, .func (PySem.W.fnOf "_law_char" "_law_char" (defArgs s__law_char) (defBody s__law_char) (defScope s__law_char) .none kV5 dc5 pm5 an5 cd5 ct5), sl5⟩) (c5 : PySem.W.codeIn K cd5 "_law_char" = true) (k5 : PySem.W.keepIn K (.ref f5) = true)
    (a6 : PySem.W.nsIn K mainGlobals "_law_edited" = some (some (.ref f6))) (l6 : K.lookup f6 = some ⟨oc6, od6, .func (PySem.W.fnOf "_law_edited" "_law_edited" (defArgs s__law_edited) (defBody s__law_edited) (defScope s__law_edited) .none kV6 dc6 pm6 an6 cd6 ct6), sl6⟩) (c6 : PySem.W.codeIn K cd6 "_law_edited" = true) (k6 : PySem.W.keepIn K (.ref f6) = true)
    (a7 : PySem.W.nsIn K mainGlobals "_law_refused" = some (some (.ref f7))) (l7 : K.lookup f7 = some ⟨oc7, od7, .func (PySem.W.fnOf "_law_refused" "_law_refused" (defArgs s__law_refused) (defBody s__law_refused) (defScope s__law_refused) .none kV7 dc7 pm7 an7 cd7 ct7), sl7⟩) (c7 : PySem.W.codeIn K cd7 "_law_refused" = true) (k7 : PySem.W.keepIn K (.ref f7) = true)
    (a8 : PySem.W.nsIn K mainGlobals "_law_listed" = some (some (.ref f8))) (l8 : K.lookup f8 = some ⟨oc8, od8, .func (PySem.W.fnOf "_law_listed" "_law_listed" (defArgs s__law_listed) (defBody s__law_listed) (defScope s__law_listed) .none kV8 dc8 pm8 an8 cd8 ct8), sl8⟩) (c8 : PySem.W.codeIn K cd8 "_law_listed" = true) (k8 : PySem.W.keepIn K (.ref f8) = true)
    (a9 : PySem.W.nsIn K mainGlobals "law" = some (some (.ref f9))) (l9 : K.lookup f9 = some ⟨oc9, od9, .func (PySem.W.fnOf "law" "law" (defArgs s_law) (defBody s_law) (defScope s_law) .none kV9 dc9 pm9 an9 cd9 ct9), sl9⟩) (c9 : PySem.W.codeIn K cd9 "law" = true) (k9 : PySem.W.keepIn K (.ref f9) = true)
    (z_bool : PySem.W.nsIn K mainGlobals "bool" = some none)
    (z_int : PySem.W.nsIn K mainGlobals "int" = some none)
    (z_isinstance : PySem.W.nsIn K mainGlobals "isinstance" = some none)
    (z_len : PySem.W.nsIn K mainGlobals "len" = some none)
    (z_list : PySem.W.nsIn K mainGlobals "list" = some none)
    (z_min : PySem.W.nsIn K mainGlobals "min" = some none)
    (z_range : PySem.W.nsIn K mainGlobals "range" = some none)
    (z_str : PySem.W.nsIn K mainGlobals "str" = some none)
    {cC_HostError cC_DecodeError cI_DecodeError cC_UnknownInstruction cI_UnknownInstruction : Addr}
    (sp0 : PySem.W.specialIn K (.builtin "object.__class__") "__get__" = some (some (.builtin "getset_descriptor.__get__"))) (tk0 : PySem.W.takesIn K (.builtin "object.__class__") = some true)
    (aC_HostError : PySem.W.nsIn K mainGlobals "HostError" = some (some (.ref cC_HostError)))
    (aC_DecodeError : PySem.W.nsIn K mainGlobals "DecodeError" = some (some (.ref cC_DecodeError)))
    (aC_UnknownInstruction : PySem.W.nsIn K mainGlobals "UnknownInstruction" = some (some (.ref cC_UnknownInstruction)))
    (ex_HostError : PySem.W.subIn K (.ref cC_HostError) (.type "BaseException") = some true)
    (ty_HostError : PySem.W.typeIn K (.ref cC_HostError) = some (.type "type"))
    (hd_HostError : PySem.W.hasDictIn K cC_HostError = true)
    (ex_DecodeError : PySem.W.subIn K (.ref cC_DecodeError) (.type "BaseException") = some true)
    (ty_DecodeError : PySem.W.typeIn K (.ref cC_DecodeError) = some (.type "type"))
    (hd_DecodeError : PySem.W.hasDictIn K cC_DecodeError = true)
    (ex_UnknownInstruction : PySem.W.subIn K (.ref cC_UnknownInstruction) (.type "BaseException") = some true)
    (ty_UnknownInstruction : PySem.W.typeIn K (.ref cC_UnknownInstruction) = some (.type "type"))
    (hd_UnknownInstruction : PySem.W.hasDictIn K cC_UnknownInstruction = true)
    {nm_DecodeError qn_DecodeError : Str} {N_DecodeError : Addr} {bs_DecodeError : List Value} {sn_DecodeError : List Str} {sub_DecodeError : List Value} {ab_DecodeError : Bool} {col_DecodeError : Option Bool} {dd_DecodeError : Option Addr} {m0_DecodeError m1_DecodeError m2_DecodeError m3_DecodeError m5_DecodeError : Option Value}
    (xl_DecodeError : K.lookup cC_DecodeError = some (excClassObj nm_DecodeError qn_DecodeError cC_DecodeError N_DecodeError bs_DecodeError [.ref cC_HostError, .type "ValueError", .type "Exception", .type "BaseException", .type "object"] true sn_DecodeError sub_DecodeError ab_DecodeError col_DecodeError dd_DecodeError m0_DecodeError m1_DecodeError m2_DecodeError m3_DecodeError m5_DecodeError "ValueError.__new__"))
    (sa_DecodeError : PySem.W.findIn K (.ref cC_DecodeError) "__setattr__" = some (some (.builtin "object.__setattr__")))
    (ga_DecodeError : PySem.W.findIn K (.ref cC_DecodeError) "__getattribute__" = some (some (.builtin "BaseException.__getattribute__")))
    (gg_DecodeError : PySem.W.findIn K (.ref cC_DecodeError) "__getattr__" = some none)
    (ca_DecodeError : PySem.W.findIn K (.ref cC_DecodeError) "__class__" = some (some (.builtin "object.__class__")))
    (kp_DecodeError : PySem.W.keepIn K (.ref cC_DecodeError) = true)
    (mr_DecodeError : PySem.W.mroIn K cC_DecodeError (.type "object") = some true)
    {odI_DecodeError anI_DecodeError : Option Addr} {slI_DecodeError : Array (Option Value)} {ocI_DecodeError kVI_DecodeError dcI_DecodeError pmI_DecodeError cdI_DecodeError ctI_DecodeError : Value}
    (aI_DecodeError : PySem.W.findIn K (.ref cC_DecodeError) "__init__" = some (some (.ref cI_DecodeError))) (tI_DecodeError : PySem.W.typeIn K (.ref cI_DecodeError) = some (.type "function"))
    (lI_DecodeError : K.lookup cI_DecodeError = some ⟨ocI_DecodeError, odI_DecodeError, .func (PySem.W.fnOf "__init__" "DecodeError.__init__" (defArgs i_DecodeError) (defBody i_DecodeError) (defScope i_DecodeError) .none kVI_DecodeError dcI_DecodeError pmI_DecodeError anI_DecodeError cdI_DecodeError ctI_DecodeError), slI_DecodeError⟩) (cdo_DecodeError : PySem.W.codeIn K cdI_DecodeError "DecodeError.__init__" = true) (kI_DecodeError : PySem.W.keepIn K (.ref cI_DecodeError) = true)
    (no_DecodeError_reason : PySem.W.findIn K (.ref cC_DecodeError) "reason" = some none)
    (no_DecodeError_place : PySem.W.findIn K (.ref cC_DecodeError) "place" = some none)
    (sub_DecodeError_HostError : PySem.W.subIn K (.ref cC_DecodeError) (.ref cC_HostError) = some true) (ne_DecodeError_HostError : (Value.ref cC_DecodeError == Value.ref cC_HostError) = false)
    (sub_DecodeError_DecodeError : PySem.W.subIn K (.ref cC_DecodeError) (.ref cC_DecodeError) = some true)
    (sub_DecodeError_UnknownInstruction : PySem.W.subIn K (.ref cC_DecodeError) (.ref cC_UnknownInstruction) = some false) (ne_DecodeError_UnknownInstruction : (Value.ref cC_DecodeError == Value.ref cC_UnknownInstruction) = false)
    (sub_DecodeError_VE : PySem.W.subIn K (.ref cC_DecodeError) (.type "ValueError") = some true)
    {nm_UnknownInstruction qn_UnknownInstruction : Str} {N_UnknownInstruction : Addr} {bs_UnknownInstruction : List Value} {sn_UnknownInstruction : List Str} {sub_UnknownInstruction : List Value} {ab_UnknownInstruction : Bool} {col_UnknownInstruction : Option Bool} {dd_UnknownInstruction : Option Addr} {m0_UnknownInstruction m1_UnknownInstruction m2_UnknownInstruction m3_UnknownInstruction m5_UnknownInstruction : Option Value}
    (xl_UnknownInstruction : K.lookup cC_UnknownInstruction = some (excClassObj nm_UnknownInstruction qn_UnknownInstruction cC_UnknownInstruction N_UnknownInstruction bs_UnknownInstruction [.ref cC_HostError, .type "ValueError", .type "Exception", .type "BaseException", .type "object"] true sn_UnknownInstruction sub_UnknownInstruction ab_UnknownInstruction col_UnknownInstruction dd_UnknownInstruction m0_UnknownInstruction m1_UnknownInstruction m2_UnknownInstruction m3_UnknownInstruction m5_UnknownInstruction "ValueError.__new__"))
    (sa_UnknownInstruction : PySem.W.findIn K (.ref cC_UnknownInstruction) "__setattr__" = some (some (.builtin "object.__setattr__")))
    (ga_UnknownInstruction : PySem.W.findIn K (.ref cC_UnknownInstruction) "__getattribute__" = some (some (.builtin "BaseException.__getattribute__")))
    (gg_UnknownInstruction : PySem.W.findIn K (.ref cC_UnknownInstruction) "__getattr__" = some none)
    (ca_UnknownInstruction : PySem.W.findIn K (.ref cC_UnknownInstruction) "__class__" = some (some (.builtin "object.__class__")))
    (kp_UnknownInstruction : PySem.W.keepIn K (.ref cC_UnknownInstruction) = true)
    (mr_UnknownInstruction : PySem.W.mroIn K cC_UnknownInstruction (.type "object") = some true)
    {odI_UnknownInstruction anI_UnknownInstruction : Option Addr} {slI_UnknownInstruction : Array (Option Value)} {ocI_UnknownInstruction kVI_UnknownInstruction dcI_UnknownInstruction pmI_UnknownInstruction cdI_UnknownInstruction ctI_UnknownInstruction : Value}
    (aI_UnknownInstruction : PySem.W.findIn K (.ref cC_UnknownInstruction) "__init__" = some (some (.ref cI_UnknownInstruction))) (tI_UnknownInstruction : PySem.W.typeIn K (.ref cI_UnknownInstruction) = some (.type "function"))
    (lI_UnknownInstruction : K.lookup cI_UnknownInstruction = some ⟨ocI_UnknownInstruction, odI_UnknownInstruction, .func (PySem.W.fnOf "__init__" "UnknownInstruction.__init__" (defArgs i_UnknownInstruction) (defBody i_UnknownInstruction) (defScope i_UnknownInstruction) .none kVI_UnknownInstruction dcI_UnknownInstruction pmI_UnknownInstruction anI_UnknownInstruction cdI_UnknownInstruction ctI_UnknownInstruction), slI_UnknownInstruction⟩) (cdo_UnknownInstruction : PySem.W.codeIn K cdI_UnknownInstruction "UnknownInstruction.__init__" = true) (kI_UnknownInstruction : PySem.W.keepIn K (.ref cI_UnknownInstruction) = true)
    (no_UnknownInstruction_name : PySem.W.findIn K (.ref cC_UnknownInstruction) "name" = some none)
    (sub_UnknownInstruction_HostError : PySem.W.subIn K (.ref cC_UnknownInstruction) (.ref cC_HostError) = some true) (ne_UnknownInstruction_HostError : (Value.ref cC_UnknownInstruction == Value.ref cC_HostError) = false)
    (sub_UnknownInstruction_DecodeError : PySem.W.subIn K (.ref cC_UnknownInstruction) (.ref cC_DecodeError) = some false) (ne_UnknownInstruction_DecodeError : (Value.ref cC_UnknownInstruction == Value.ref cC_DecodeError) = false)
    (sub_UnknownInstruction_UnknownInstruction : PySem.W.subIn K (.ref cC_UnknownInstruction) (.ref cC_UnknownInstruction) = some true)
    (sub_UnknownInstruction_VE : PySem.W.subIn K (.ref cC_UnknownInstruction) (.type "ValueError") = some true)
    {ct_NAMES ct_PREFIXED_NAMES : Addr}
    (at_NAMES : PySem.W.nsIn K mainGlobals "NAMES" = some (some (.ref ct_NAMES)))
    {es_NAMES : Array DictEntry} {n_NAMES : Nat} (lt_NAMES : K.lookup ct_NAMES = some ⟨.type "dict", none, .dict es_NAMES n_NAMES, #[]⟩) (st_NAMES : (ct_NAMES == sysModules) = false)
    (at_PREFIXED_NAMES : PySem.W.nsIn K mainGlobals "PREFIXED_NAMES" = some (some (.ref ct_PREFIXED_NAMES)))
    {es_PREFIXED_NAMES : Array DictEntry} {n_PREFIXED_NAMES : Nat} (lt_PREFIXED_NAMES : K.lookup ct_PREFIXED_NAMES = some ⟨.type "dict", none, .dict es_PREFIXED_NAMES n_PREFIXED_NAMES, #[]⟩) (st_PREFIXED_NAMES : (ct_PREFIXED_NAMES == sysModules) = false)
    (vt_NAMES : RowsI es_NAMES.toList (v_NAMES (⟨cC_HostError, cC_DecodeError, cI_DecodeError, (PySem.W.fnOf "__init__" "DecodeError.__init__" (defArgs i_DecodeError) (defBody i_DecodeError) (defScope i_DecodeError) .none kVI_DecodeError dcI_DecodeError pmI_DecodeError anI_DecodeError cdI_DecodeError ctI_DecodeError), cC_UnknownInstruction, cI_UnknownInstruction, (PySem.W.fnOf "__init__" "UnknownInstruction.__init__" (defArgs i_UnknownInstruction) (defBody i_UnknownInstruction) (defScope i_UnknownInstruction) .none kVI_UnknownInstruction dcI_UnknownInstruction pmI_UnknownInstruction anI_UnknownInstruction cdI_UnknownInstruction ctI_UnknownInstruction), ct_NAMES, ct_PREFIXED_NAMES⟩ : Cs)))
    (vt_PREFIXED_NAMES : RowsI es_PREFIXED_NAMES.toList (v_PREFIXED_NAMES (⟨cC_HostError, cC_DecodeError, cI_DecodeError, (PySem.W.fnOf "__init__" "DecodeError.__init__" (defArgs i_DecodeError) (defBody i_DecodeError) (defScope i_DecodeError) .none kVI_DecodeError dcI_DecodeError pmI_DecodeError anI_DecodeError cdI_DecodeError ctI_DecodeError), cC_UnknownInstruction, cI_UnknownInstruction, (PySem.W.fnOf "__init__" "UnknownInstruction.__init__" (defArgs i_UnknownInstruction) (defBody i_UnknownInstruction) (defScope i_UnknownInstruction) .none kVI_UnknownInstruction dcI_UnknownInstruction pmI_UnknownInstruction anI_UnknownInstruction cdI_UnknownInstruction ctI_UnknownInstruction), ct_NAMES, ct_PREFIXED_NAMES⟩ : Cs)))
    {ki_PREFIX : Tok} (ai_PREFIX : PySem.W.nsIn K mainGlobals "PREFIX" = some (some (.int 252 ki_PREFIX)))
    : ∃ fd : FuncData, (∀ (s : Shared) (v : Value), BindsTo s fd ⟨[v], []⟩ [("script", v)]) ∧ ∀ base : Heap, K.In base → base.Ns mainGlobals mg → FnOk l.prog w K mg base CX0 5 fa fd ["script"] (sp_lawK K) := by
  have e := hfa.symm.trans (PySem.W.mg_of X G a9)
  cases e
  have FI_DecodeError := fun_mk (st := i_DecodeError) lI_DecodeError cdo_DecodeError kI_DecodeError
  have FI_UnknownInstruction := fun_mk (st := i_UnknownInstruction) lI_UnknownInstruction cdo_UnknownInstruction kI_UnknownInstruction
  have T : Tp w K mg (⟨cC_HostError, cC_DecodeError, cI_DecodeError, (PySem.W.fnOf "__init__" "DecodeError.__init__" (defArgs i_DecodeError) (defBody i_DecodeError) (defScope i_DecodeError) .none kVI_DecodeError dcI_DecodeError pmI_DecodeError anI_DecodeError cdI_DecodeError ctI_DecodeError), cC_UnknownInstruction, cI_UnknownInstruction, (PySem.W.fnOf "__init__" "UnknownInstruction.__init__" (defArgs i_UnknownInstruction) (defBody i_UnknownInstruction) (defScope i_UnknownInstruction) .none kVI_UnknownInstruction dcI_UnknownInstruction pmI_UnknownInstruction anI_UnknownInstruction cdI_UnknownInstruction ctI_UnknownInstruction), ct_NAMES, ct_PREFIXED_NAMES⟩ : Cs) := ⟨PySem.W.mg_none_of X G z_bool, PySem.W.mg_none_of X G z_int, PySem.W.mg_none_of X G z_isinstance, PySem.W.mg_none_of X G z_len, PySem.W.mg_none_of X G z_list, PySem.W.mg_none_of X G z_min, PySem.W.mg_none_of X G z_range, PySem.W.mg_none_of X G z_str, PySem.W.mg_of X G aC_HostError, PySem.W.mg_of X G aC_DecodeError, ⟨PySem.W.mg_of X G aC_DecodeError, ⟨⟨nm_DecodeError, qn_DecodeError, N_DecodeError, bs_DecodeError, _, sn_DecodeError, sub_DecodeError, ab_DecodeError, col_DecodeError, dd_DecodeError, m0_DecodeError, m1_DecodeError, m2_DecodeError, m3_DecodeError, m5_DecodeError, xl_DecodeError, by rfl⟩, sa_DecodeError, ex_DecodeError, ty_DecodeError, kp_DecodeError⟩, ga_DecodeError, gg_DecodeError, hd_DecodeError, ca_DecodeError, sp0, tk0, mr_DecodeError⟩, aI_DecodeError, tI_DecodeError, FI_DecodeError, FI_DecodeError.binds (ps := ["self", "reason", "place"]) fun _ _ _ _ _ _ us hl => match us, hl with | [_, _, _], _ => rfl, no_DecodeError_reason, no_DecodeError_place, kit_two ne_DecodeError_HostError hd_HostError ty_HostError sub_DecodeError_HostError, PySem.W.exm_ref ex_HostError hd_HostError ty_HostError sub_DecodeError_HostError, kit_self, PySem.W.exm_ref ex_DecodeError hd_DecodeError ty_DecodeError sub_DecodeError_DecodeError, kit_two ne_DecodeError_UnknownInstruction hd_UnknownInstruction ty_UnknownInstruction sub_DecodeError_UnknownInstruction, PySem.W.exm_ref ex_UnknownInstruction hd_UnknownInstruction ty_UnknownInstruction sub_DecodeError_UnknownInstruction, kit_ve sub_DecodeError_VE, PySem.W.mg_of X G aC_UnknownInstruction, ⟨PySem.W.mg_of X G aC_UnknownInstruction, ⟨⟨nm_UnknownInstruction, qn_UnknownInstruction, N_UnknownInstruction, bs_UnknownInstruction, _, sn_UnknownInstruction, sub_UnknownInstruction, ab_UnknownInstruction, col_UnknownInstruction, dd_UnknownInstruction, m0_UnknownInstruction, m1_UnknownInstruction, m2_UnknownInstruction, m3_UnknownInstruction, m5_UnknownInstruction, xl_UnknownInstruction, by rfl⟩, sa_UnknownInstruction, ex_UnknownInstruction, ty_UnknownInstruction, kp_UnknownInstruction⟩, ga_UnknownInstruction, gg_UnknownInstruction, hd_UnknownInstruction, ca_UnknownInstruction, sp0, tk0, mr_UnknownInstruction⟩, aI_UnknownInstruction, tI_UnknownInstruction, FI_UnknownInstruction, FI_UnknownInstruction.binds (ps := ["self", "name"]) fun _ _ _ _ _ _ us hl => match us, hl with | [_, _], _ => rfl, no_UnknownInstruction_name, kit_two ne_UnknownInstruction_HostError hd_HostError ty_HostError sub_UnknownInstruction_HostError, PySem.W.exm_ref ex_HostError hd_HostError ty_HostError sub_UnknownInstruction_HostError, kit_two ne_UnknownInstruction_DecodeError hd_DecodeError ty_DecodeError sub_UnknownInstruction_DecodeError, PySem.W.exm_ref ex_DecodeError hd_DecodeError ty_DecodeError sub_UnknownInstruction_DecodeError, kit_self, PySem.W.exm_ref ex_UnknownInstruction hd_UnknownInstruction ty_UnknownInstruction sub_UnknownInstruction_UnknownInstruction, kit_ve sub_UnknownInstruction_VE, PySem.W.mg_of X G at_NAMES, ⟨⟨_, _, lt_NAMES, st_NAMES, vt_NAMES⟩, nd_NAMES⟩, PySem.W.mg_of X G at_PREFIXED_NAMES, ⟨⟨_, _, lt_PREFIXED_NAMES, st_PREFIXED_NAMES, vt_PREFIXED_NAMES⟩, nd_PREFIXED_NAMES⟩, ⟨_, PySem.W.mg_of X G ai_PREFIX⟩⟩
  have F0 := fun_mk (st := s_opcode) l0 c0 k0
  have D_opcode : Def K mg "opcode" s_opcode ["name"] := ⟨_, _, F0, PySem.W.mg_of X G a0, F0.binds (ps := ["name"]) fun _ _ _ _ _ _ us hl => match us, hl with | [_], _ => rfl⟩
  have F1 := fun_mk (st := s_instruction_name) l1 c1 k1
  have D_instruction_name : Def K mg "instruction_name" s_instruction_name ["code"] := ⟨_, _, F1, PySem.W.mg_of X G a1, F1.binds (ps := ["code"]) fun _ _ _ _ _ _ us hl => match us, hl with | [_], _ => rfl⟩
  have F2 := fun_mk (st := s__law_cell) l2 c2 k2
  have D__law_cell : Def K mg "_law_cell" s__law_cell ["script", "k"] := ⟨_, _, F2, PySem.W.mg_of X G a2, F2.binds (ps := ["script", "k"]) fun _ _ _ _ _ _ us hl => match us, hl with | [_, _], _ => rfl⟩
  have F3 := fun_mk (st := s__law_opcode) l3 c3 k3
  have D__law_opcode : Def K mg "_law_opcode" s__law_opcode ["name"] := ⟨_, _, F3, PySem.W.mg_of X G a3, F3.binds (ps := ["name"]) fun _ _ _ _ _ _ us hl => match us, hl with | [_], _ => rfl⟩
  have F4 := fun_mk (st := s__law_all_names) l4 c4 k4
  have D__law_all_names : Def K mg "_law_all_names" s__law_all_names [] := ⟨_, _, F4, PySem.W.mg_of X G a4, F4.binds (ps := []) fun _ _ _ _ _ _ us hl => match us, hl with | [], _ => rfl⟩
  have F5 := fun_mk (st := s__law_char) l5 c5 k5
  have D__law_char : Def K mg "_law_char" s__law_char ["cell"] := ⟨_, _, F5, PySem.W.mg_of X G a5, F5.binds (ps := ["cell"]) fun _ _ _ _ _ _ us hl => match us, hl with | [_], _ => rfl⟩
  have F6 := fun_mk (st := s__law_edited) l6 c6 k6
  have D__law_edited : Def K mg "_law_edited" s__law_edited ["name", "cell"] := ⟨_, _, F6, PySem.W.mg_of X G a6, F6.binds (ps := ["name", "cell"]) fun _ _ _ _ _ _ us hl => match us, hl with | [_, _], _ => rfl⟩
  have F7 := fun_mk (st := s__law_refused) l7 c7 k7
  have D__law_refused : Def K mg "_law_refused" s__law_refused ["name"] := ⟨_, _, F7, PySem.W.mg_of X G a7, F7.binds (ps := ["name"]) fun _ _ _ _ _ _ us hl => match us, hl with | [_], _ => rfl⟩
  have F8 := fun_mk (st := s__law_listed) l8 c8 k8
  have D__law_listed : Def K mg "_law_listed" s__law_listed ["name", "code"] := ⟨_, _, F8, PySem.W.mg_of X G a8, F8.binds (ps := ["name", "code"]) fun _ _ _ _ _ _ us hl => match us, hl with | [_, _], _ => rfl⟩
  have F9 := fun_mk (st := s_law) l9 c9 k9
  refine ⟨PySem.W.fnOf "law" "law" (defArgs s_law) (defBody s_law) (defScope s_law) .none kV9 dc9 pm9 an9 cd9 ct9, fun s v => .of_eq rfl, fun base _ _ => ?_⟩
  have C__law_all_names : Cal l.prog w K mg base CX0 1 "_law_all_names" (sp__law_all_names K (⟨cC_HostError, cC_DecodeError, cI_DecodeError, (PySem.W.fnOf "__init__" "DecodeError.__init__" (defArgs i_DecodeError) (defBody i_DecodeError) (defScope i_DecodeError) .none kVI_DecodeError dcI_DecodeError pmI_DecodeError anI_DecodeError cdI_DecodeError ctI_DecodeError), cC_UnknownInstruction, cI_UnknownInstruction, (PySem.W.fnOf "__init__" "UnknownInstruction.__init__" (defArgs i_UnknownInstruction) (defBody i_UnknownInstruction) (defScope i_UnknownInstruction) .none kVI_UnknownInstruction dcI_UnknownInstruction pmI_UnknownInstruction anI_UnknownInstruction cdI_UnknownInstruction ctI_UnknownInstruction), ct_NAMES, ct_PREFIXED_NAMES⟩ : Cs)) := c__law_all_names D__law_all_names T 
  have C__law_cell : Cal l.prog w K mg base CX0 1 "_law_cell" (sp__law_cell K (⟨cC_HostError, cC_DecodeError, cI_DecodeError, (PySem.W.fnOf "__init__" "DecodeError.__init__" (defArgs i_DecodeError) (defBody i_DecodeError) (defScope i_DecodeError) .none kVI_DecodeError dcI_DecodeError pmI_DecodeError anI_DecodeError cdI_DecodeError ctI_DecodeError), cC_UnknownInstruction, cI_UnknownInstruction, (PySem.W.fnOf "__init__" "UnknownInstruction.__init__" (defArgs i_UnknownInstruction) (defBody i_UnknownInstruction) (defScope i_UnknownInstruction) .none kVI_UnknownInstruction dcI_UnknownInstruction pmI_UnknownInstruction anI_UnknownInstruction cdI_UnknownInstruction ctI_UnknownInstruction), ct_NAMES, ct_PREFIXED_NAMES⟩ : Cs)) := c__law_cell D__law_cell T 
  have C__law_char : Cal l.prog w K mg base CX0 1 "_law_char" (sp__law_char K (⟨cC_HostError, cC_DecodeError, cI_DecodeError, (PySem.W.fnOf "__init__" "DecodeError.__init__" (defArgs i_DecodeError) (defBody i_DecodeError) (defScope i_DecodeError) .none kVI_DecodeError dcI_DecodeError pmI_DecodeError anI_DecodeError cdI_DecodeError ctI_DecodeError), cC_UnknownInstruction, cI_UnknownInstruction, (PySem.W.fnOf "__init__" "UnknownInstruction.__init__" (defArgs i_UnknownInstruction) (defBody i_UnknownInstruction) (defScope i_UnknownInstruction) .none kVI_UnknownInstruction dcI_UnknownInstruction pmI_UnknownInstruction anI_UnknownInstruction cdI_UnknownInstruction ctI_UnknownInstruction), ct_NAMES, ct_PREFIXED_NAMES⟩ : Cs)) := c__law_char D__law_char T 
  have C__law_edited : Cal l.prog w K mg base CX0 2 "_law_edited" (sp__law_edited K (⟨cC_HostError, cC_DecodeError, cI_DecodeError, (PySem.W.fnOf "__init__" "DecodeError.__init__" (defArgs i_DecodeError) (defBody i_DecodeError) (defScope i_DecodeError) .none kVI_DecodeError dcI_DecodeError pmI_DecodeError anI_DecodeError cdI_DecodeError ctI_DecodeError), cC_UnknownInstruction, cI_UnknownInstruction, (PySem.W.fnOf "__init__" "UnknownInstruction.__init__" (defArgs i_UnknownInstruction) (defBody i_UnknownInstruction) (defScope i_UnknownInstruction) .none kVI_UnknownInstruction dcI_UnknownInstruction pmI_UnknownInstruction anI_UnknownInstruction cdI_UnknownInstruction ctI_UnknownInstruction), ct_NAMES, ct_PREFIXED_NAMES⟩ : Cs)) := c__law_edited D__law_edited T C__law_char
  have C_opcode : Cal l.prog w K mg base (L2.CX l.prog w) 3 "opcode" (sp_opcode K (⟨cC_HostError, cC_DecodeError, cI_DecodeError, (PySem.W.fnOf "__init__" "DecodeError.__init__" (defArgs i_DecodeError) (defBody i_DecodeError) (defScope i_DecodeError) .none kVI_DecodeError dcI_DecodeError pmI_DecodeError anI_DecodeError cdI_DecodeError ctI_DecodeError), cC_UnknownInstruction, cI_UnknownInstruction, (PySem.W.fnOf "__init__" "UnknownInstruction.__init__" (defArgs i_UnknownInstruction) (defBody i_UnknownInstruction) (defScope i_UnknownInstruction) .none kVI_UnknownInstruction dcI_UnknownInstruction pmI_UnknownInstruction anI_UnknownInstruction cdI_UnknownInstruction ctI_UnknownInstruction), ct_NAMES, ct_PREFIXED_NAMES⟩ : Cs)) := c_opcode D_opcode T 
  have C__law_refused : Cal l.prog w K mg base CX0 4 "_law_refused" (sp__law_refused K (⟨cC_HostError, cC_DecodeError, cI_DecodeError, (PySem.W.fnOf "__init__" "DecodeError.__init__" (defArgs i_DecodeError) (defBody i_DecodeError) (defScope i_DecodeError) .none kVI_DecodeError dcI_DecodeError pmI_DecodeError anI_DecodeError cdI_DecodeError ctI_DecodeError), cC_UnknownInstruction, cI_UnknownInstruction, (PySem.W.fnOf "__init__" "UnknownInstruction.__init__" (defArgs i_UnknownInstruction) (defBody i_UnknownInstruction) (defScope i_UnknownInstruction) .none kVI_UnknownInstruction dcI_UnknownInstruction pmI_UnknownInstruction anI_UnknownInstruction cdI_UnknownInstruction ctI_UnknownInstruction), ct_NAMES, ct_PREFIXED_NAMES⟩ : Cs)) := c__law_refused D__law_refused T C_opcode
  have C__law_opcode : Cal l.prog w K mg base CX0 1 "_law_opcode" (sp__law_opcode K (⟨cC_HostError, cC_DecodeError, cI_DecodeError, (PySem.W.fnOf "__init__" "DecodeError.__init__" (defArgs i_DecodeError) (defBody i_DecodeError) (defScope i_DecodeError) .none kVI_DecodeError dcI_DecodeError pmI_DecodeError anI_DecodeError cdI_DecodeError ctI_DecodeError), cC_UnknownInstruction, cI_UnknownInstruction, (PySem.W.fnOf "__init__" "UnknownInstruction.__init__" (defArgs i_UnknownInstruction) (defBody i_UnknownInstruction) (defScope i_UnknownInstruction) .none kVI_UnknownInstruction dcI_UnknownInstruction pmI_UnknownInstruction anI_UnknownInstruction cdI_UnknownInstruction ctI_UnknownInstruction), ct_NAMES, ct_PREFIXED_NAMES⟩ : Cs)) := c__law_opcode D__law_opcode T 
  have C_instruction_name : Cal l.prog w K mg base CX0 1 "instruction_name" (sp_instruction_name K (⟨cC_HostError, cC_DecodeError, cI_DecodeError, (PySem.W.fnOf "__init__" "DecodeError.__init__" (defArgs i_DecodeError) (defBody i_DecodeError) (defScope i_DecodeError) .none kVI_DecodeError dcI_DecodeError pmI_DecodeError anI_DecodeError cdI_DecodeError ctI_DecodeError), cC_UnknownInstruction, cI_UnknownInstruction, (PySem.W.fnOf "__init__" "UnknownInstruction.__init__" (defArgs i_UnknownInstruction) (defBody i_UnknownInstruction) (defScope i_UnknownInstruction) .none kVI_UnknownInstruction dcI_UnknownInstruction pmI_UnknownInstruction anI_UnknownInstruction cdI_UnknownInstruction ctI_UnknownInstruction), ct_NAMES, ct_PREFIXED_NAMES⟩ : Cs)) := c_instruction_name D_instruction_name T 
  have C__law_listed : Cal l.prog w K mg base CX0 4 "_law_listed" (sp__law_listed K (⟨cC_HostError, cC_DecodeError, cI_DecodeError, (PySem.W.fnOf "__init__" "DecodeError.__init__" (defArgs i_DecodeError) (defBody i_DecodeError) (defScope i_DecodeError) .none kVI_DecodeError dcI_DecodeError pmI_DecodeError anI_DecodeError cdI_DecodeError ctI_DecodeError), cC_UnknownInstruction, cI_UnknownInstruction, (PySem.W.fnOf "__init__" "UnknownInstruction.__init__" (defArgs i_UnknownInstruction) (defBody i_UnknownInstruction) (defScope i_UnknownInstruction) .none kVI_UnknownInstruction dcI_UnknownInstruction pmI_UnknownInstruction anI_UnknownInstruction cdI_UnknownInstruction ctI_UnknownInstruction), ct_NAMES, ct_PREFIXED_NAMES⟩ : Cs)) := c__law_listed D__law_listed T C_opcode C_instruction_name
  exact c_law F9 T C__law_all_names C__law_cell C__law_edited C__law_refused C__law_opcode C__law_listed C_instruction_name
theorem walk {l : PySem.W.OpenLaw} {q : Program} {loose : List Str} {XP : (Str → Option Value) → Heap → Prop} {YP : World → Heap → Prop} {d : DefRec} {K : Params → PySem.W.Frag} (hn : l.most = some 63) (hdf : d.params.defaults = [])
    (hY : ∀ (w : World) (h : Heap), YP w h → (K w.params).In h)
    (F : ∀ (w : World) (mg : Str → Option Value) (fa : Addr) (h : Heap), (K w.params).In h → h.Ns mainGlobals mg → mg d.name = some (.ref fa) →
      ∃ fd : FuncData, (∀ (s : Shared) (u : Value), BindsTo s fd ⟨[u], []⟩ [("script", u)]) ∧ ∀ base : Heap, (K w.params).In base → base.Ns mainGlobals mg → FnOk l.prog w (K w.params) mg base CX0 5 fa fd ["script"] (sp_lawK (K w.params))) :
    PySem.W.WalkO q loose XP YP l.row.toRowW d [] (fun f vs => PySem.call f vs) :=
  L2.walk_of (n := 63) (k := 5) (x := "script") (CX := fun _ => CX0) (sp := fun w => sp_lawK (K w.params)) hn (by decide) hdf ⟨rfl, by decide, by decide⟩ hY F (fun _ _ a ns hl _ hS => ⟨a, ns, rfl, hS, hl, fun _ => rfl⟩) fun _ _ _ _ _ z => z
end V
open PySem PySem.W PyProof.Rows
set_option maxRecDepth 100000 in
set_option maxHeartbeats 0 in
theorem PySem.Challenge.cw_wasmhost_k12_opcodes_holds : PySem.Challenge.rw_wasmhost_k12_opcodes.Holds := by
  w_on; o_law; k_head; (case hw => w_witness2)
  k_fill
  refine V.walk (l := PySem.Challenge.rw_wasmhost_k12_opcodes) rfl rfl (fun w h Y => PySem.W.kIn_of Y) ?F
  case F =>
    intro w mg fa h KX G hmg
    refine' V.all_mk KX G hmg ?a0 ?l0 ?c0 ?k0 ?a1 ?l1 ?c1 ?k1 ?a2 ?l2 ?c2 ?k2 ?a3 ?l3 ?c3 ?k3 ?a4 ?l4 ?c4 ?k4 ?a5 ?l5 ?c5 ?k5 ?a6 ?l6 ?c6 ?k6 ?a7 ?l7 ?c7 ?k7 ?a8 ?l8 ?c8 ?k8 ?a9 ?l9 ?c9 ?k9 ?z_bool ?z_int ?z_isinstance ?z_len ?z_list ?z_min ?z_range ?z_str ?sp0 ?tk0 ?aC_HostError ?aC_DecodeError ?aC_UnknownInstruction ?ex_HostError ?ty_HostError ?hd_HostError ?ex_DecodeError ?ty_DecodeError ?hd_DecodeError ?ex_UnknownInstruction ?ty_UnknownInstruction ?hd_UnknownInstruction ?xl_DecodeError ?sa_DecodeError ?ga_DecodeError ?gg_DecodeError ?ca_DecodeError ?kp_DecodeError ?mr_DecodeError ?aI_DecodeError ?tI_DecodeError ?lI_DecodeError ?cdo_DecodeError ?kI_DecodeError ?no_DecodeError_reason ?no_DecodeError_place ?sub_DecodeError_HostError ?ne_DecodeError_HostError ?sub_DecodeError_DecodeError ?sub_DecodeError_UnknownInstruction ?ne_DecodeError_UnknownInstruction ?sub_DecodeError_VE ?xl_UnknownInstruction ?sa_UnknownInstruction ?ga_UnknownInstruction ?gg_UnknownInstruction ?ca_UnknownInstruction ?kp_UnknownInstruction ?mr_UnknownInstruction ?aI_UnknownInstruction ?tI_UnknownInstruction ?lI_UnknownInstruction ?cdo_UnknownInstruction ?kI_UnknownInstruction ?no_UnknownInstruction_name ?sub_UnknownInstruction_HostError ?ne_UnknownInstruction_HostError ?sub_UnknownInstruction_DecodeError ?ne_UnknownInstruction_DecodeError ?sub_UnknownInstruction_UnknownInstruction ?sub_UnknownInstruction_VE ?at_NAMES ?lt_NAMES ?st_NAMES ?at_PREFIXED_NAMES ?lt_PREFIXED_NAMES ?st_PREFIXED_NAMES ?vt_NAMES ?vt_PREFIXED_NAMES ?ai_PREFIX
    (case a0 => k_is)
    (case l0 => k_is)
    (case c0 => k_is)
    (case k0 => k_is)
    (case a1 => k_is)
    (case l1 => k_is)
    (case c1 => k_is)
    (case k1 => k_is)
    (case a2 => k_is)
    (case l2 => k_is)
    (case c2 => k_is)
    (case k2 => k_is)
    (case a3 => k_is)
    (case l3 => k_is)
    (case c3 => k_is)
    (case k3 => k_is)
    (case a4 => k_is)
    (case l4 => k_is)
    (case c4 => k_is)
    (case k4 => k_is)
    (case a5 => k_is)
    (case l5 => k_is)
    (case c5 => k_is)
    (case k5 => k_is)
    (case a6 => k_is)
    (case l6 => k_is)
    (case c6 => k_is)
    (case k6 => k_is)
    (case a7 => k_is)
    (case l7 => k_is)
    (case c7 => k_is)
    (case k7 => k_is)
    (case a8 => k_is)
    (case l8 => k_is)
    (case c8 => k_is)
    (case k8 => k_is)
    (case a9 => k_is)
    (case l9 => k_is)
    (case c9 => k_is)
    (case k9 => k_is)
    (case z_bool => k_is)
    (case z_int => k_is)
    (case z_isinstance => k_is)
    (case z_len => k_is)
    (case z_list => k_is)
    (case z_min => k_is)
    (case z_range => k_is)
    (case z_str => k_is)
    (case sp0 => k_is)
    (case tk0 => k_is)
    (case aC_HostError => k_is)
    (case aC_DecodeError => k_is)
    (case aC_UnknownInstruction => k_is)
    (case ex_HostError => k_is)
    (case ty_HostError => k_is)
    (case hd_HostError => k_is)
    (case ex_DecodeError => k_is)
    (case ty_DecodeError => k_is)
    (case hd_DecodeError => k_is)
    (case ex_UnknownInstruction => k_is)
    (case ty_UnknownInstruction => k_is)
    (case hd_UnknownInstruction => k_is)
    (case xl_DecodeError => k_is)
    (case sa_DecodeError => k_is)
    (case ga_DecodeError => k_is)
    (case gg_DecodeError => k_is)
    (case ca_DecodeError => k_is)
    (case kp_DecodeError => k_is)
    (case mr_DecodeError => k_is)
    (case aI_DecodeError => k_is)
    (case tI_DecodeError => k_is)
    (case lI_DecodeError => k_is)
    (case cdo_DecodeError => k_is)
    (case kI_DecodeError => k_is)
    (case no_DecodeError_reason => k_is)
    (case no_DecodeError_place => k_is)
    (case sub_DecodeError_HostError => first | rfl | k_is)
    (case ne_DecodeError_HostError => decide)
    (case sub_DecodeError_DecodeError => first | rfl | k_is)
    (case sub_DecodeError_UnknownInstruction => first | rfl | k_is)
    (case ne_DecodeError_UnknownInstruction => decide)
    (case sub_DecodeError_VE => first | rfl | k_is)
    (case xl_UnknownInstruction => k_is)
    (case sa_UnknownInstruction => k_is)
    (case ga_UnknownInstruction => k_is)
    (case gg_UnknownInstruction => k_is)
    (case ca_UnknownInstruction => k_is)
    (case kp_UnknownInstruction => k_is)
    (case mr_UnknownInstruction => k_is)
    (case aI_UnknownInstruction => k_is)
    (case tI_UnknownInstruction => k_is)
    (case lI_UnknownInstruction => k_is)
    (case cdo_UnknownInstruction => k_is)
    (case kI_UnknownInstruction => k_is)
    (case no_UnknownInstruction_name => k_is)
    (case sub_UnknownInstruction_HostError => first | rfl | k_is)
    (case ne_UnknownInstruction_HostError => decide)
    (case sub_UnknownInstruction_DecodeError => first | rfl | k_is)
    (case ne_UnknownInstruction_DecodeError => decide)
    (case sub_UnknownInstruction_UnknownInstruction => first | rfl | k_is)
    (case sub_UnknownInstruction_VE => first | rfl | k_is)
    (case at_NAMES => k_is)
    (case lt_NAMES => k_is)
    (case st_NAMES => first | rfl | decide)
    (case at_PREFIXED_NAMES => k_is)
    (case lt_PREFIXED_NAMES => k_is)
    (case st_PREFIXED_NAMES => first | rfl | decide)
    (case vt_NAMES => repeat (first | exact True.intro | refine And.intro ⟨_, rfl⟩ (And.intro rfl (And.intro (by first | exact rfl | exact ⟨_, rfl⟩) ?_))))
    (case vt_PREFIXED_NAMES => repeat (first | exact True.intro | refine And.intro ⟨_, rfl⟩ (And.intro rfl (And.intro (by first | exact rfl | exact ⟨_, rfl⟩) ?_))))
    (case ai_PREFIX => k_is)
#print axioms PySem.Challenge.cw_wasmhost_k12_opcodes_holds


