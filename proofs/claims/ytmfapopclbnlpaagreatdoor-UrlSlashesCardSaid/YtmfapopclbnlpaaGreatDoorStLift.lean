import Derived.Test.YtmfapopclbnlpaaGreatDoorRows
import Derived.Test.YtmfapopclbnlpaaGreatDoorCards
import Derived.Test.YtmfapopclbnlpaaGreatDoorTie
import Derived.LaidMore
import Derived.Lay
import Derived.MakeChecks
import Derived.SevenTiedAt
import Derived.WalkKit
import Derived.ProofKit
import Derived.OpenShut
import Derived.ShutString
import Derived.ChangeOld
import Derived.Below
import Derived.SliceStrings
import Derived.Test.YtmfapopclbnlpaaGreatDoorSt33
import Derived.Test.YtmfapopclbnlpaaGreatDoorSt36
import Derived.Test.YtmfapopclbnlpaaGreatDoorSt37
namespace Go.Proofs.YtmfapopclbnlpaaGreatDoor.urlSlashes
open Go.ChangeShapes Go.WideShapes Go.ChangeAt Go.RowKit
open Go.ChangeMaps (open_string shut_string)
set_option linter.unusedVariables false
theorem own:ownKnob Tryz.prog.godebug=none:=by kernel_rfl
theorem laidOut:laidOutB Tryz.prog=true:=by kernel_rfl
theorem walk(a0:Int)(a1:ByteArray)(a2:Option Addr)(len2 cap2:Nat)(z2:List Bool)(w:World)(w0:(Lit.int .i64 a0).wf=true)(w1:a1.size≤maxLen)(w2:pH w a2 len2 cap2 z2)(htab:o5 w):
 Calls Tryz.prog 11 #[.int .i64 a0,.string a1,.slice a2 len2 cap2] w fun e w'=>e=.returned (.bool true)∧Below w.heap.size w w':=by
 exact ph a0 a1 a2 len2 cap2 z2 w w0 w1 w2 htab
set_option maxRecDepth 100000 in
theorem lifted(os:Os)(started:os.Started)(H:Type)(enc:TypeId×Value→H):
 ReturnsInHanded {} Tryz.checked os 11 .any (fun w args=>(Rows.urlSlashesSpec.pre enc Tryz.prog Tryz.f11 [] false w args∧laidMetH Tryz.prog [("math/bits.deBruijn32tab",Rows.laid_math_bits_deBruijn32tab),("math/bits.deBruijn64tab",Rows.laid_math_bits_deBruijn64tab),("internal/strconv.uint64pow10",Rows.laid_internal_strconv_uint64pow10)] w)∧sizedMet enc Tryz.prog Tryz.f11 (OpenSpec.ofChange Rows.urlSlashesSpec) false w args) (Rows.urlSlashesSpec.post enc Tryz.prog Tryz.f11 false true false false):=by
 refine Ey (C:=Tryz.checked) (X:=fun w _=>laidMetH Tryz.prog [("math/bits.deBruijn32tab",Rows.laid_math_bits_deBruijn32tab),("math/bits.deBruijn64tab",Rows.laid_math_bits_deBruijn64tab),("internal/strconv.uint64pow10",Rows.laid_internal_strconv_uint64pow10)] w) (fun _ _ _ hh h=>h.of_heap hh) own started (by kernel_rfl) Tryz.func11
  (ChangeSpec.witness_shaped (enc:=enc) (C:=Tryz.checked) (os:=os) (X:=fun w _=>laidMetH Tryz.prog [("math/bits.deBruijn32tab",Rows.laid_math_bits_deBruijn32tab),("math/bits.deBruijn64tab",Rows.laid_math_bits_deBruijn64tab),("internal/strconv.uint64pow10",Rows.laid_internal_strconv_uint64pow10)] w) false (World.doorLaid Tryz.prog 400 os) #[.int .i64 0,.string .empty,.slice none 0 0] 8 rfl (World.shaped_of_RefB (by kernel_rfl) (by kernel_rfl)) (by kernel_rfl) (by kernel_rfl) (by kernel_rfl) (Hk os _)) ?_
 intro W base args ds gs before hval0 hW hsh hL
 have hval:∀(j:Nat) t v,Tryz.f11.params[j]?=some t→args[j]?=some v→Value.okWide Tryz.prog W .any base t v:=hval0
 have hW':=hW
 obtain ⟨p,q,hA0,hV,rfl,hfz,hnd⟩:=hW
 have hA:DataW.TrodAll enc Tryz.prog W 0 (fun _=>true) true Tryz.f11.params.toList args.toList ds p:=hA0
 rw [Tryz.params11]at hA hval
 obtain ⟨v0,vs0,d0,ds0,p0,q0,hargs,rfl,rfl,h0,r0⟩:=trodAll_cons hA
 obtain ⟨v1,vs1,d1,ds1,p1,q1,rfl,rfl,rfl,h1,r1⟩:=trodAll_cons r0
 obtain ⟨v2,vs2,d2,ds2,p2,q2,rfl,rfl,rfl,h2,r2⟩:=trodAll_cons r1
 obtain ⟨rfl,rfl,rfl⟩:=trodAll_nil r2
 obtain rfl:args=#[v0,v1,v2]:=by cases args;simp_all
 obtain ⟨rfl,rfl⟩:=trodVars_none hV
 obtain ⟨a0,rfl,rfl,rfl,w0⟩:=open_int Tryz.underlying3 (hval 0 3 v0 rfl rfl) h0
 obtain ⟨a1,rfl,rfl,rfl,w1⟩:=open_string Tryz.underlying9 (hval 1 9 v1 rfl rfl) h1
 obtain ⟨a2,len2,cap2,rfl⟩:=okWide_slice Tryz.underlying48 (hval 2 48 v2 rfl rfl)
 have g2:=Js Tryz.underlying48 (hval 2 48 _ rfl rfl)
 have k2:=h2
 have lt2:∀x∈p2,x.block<W.heap.size:=by obtain ⟨m,hm⟩:=k2;exact DataW.trod_lt m _ _ _ hm
 obtain ⟨z2,w2⟩:∃zs,wa W a2 len2 cap2 zs:=by
  obtain ⟨fuel,hf⟩:=h2
  rcases Deep.open_bools Tryz.underlying48 Tryz.underlying4 (by kernel_rfl) hf with⟨hcs,_⟩|⟨x,l,c,B,hcs,_,hl,hm,_,hcell⟩
  ·simp [Value.cells]at hcs
   obtain ⟨rfl,rfl,rfl⟩:=hcs
   exact ⟨[],A2 W⟩
  ·simp [Value.cells]at hcs
   obtain ⟨rfl,rfl,rfl⟩:=hcs
   exact ⟨_,yT hl hm hcell⟩
 replace w2:pH W a2 len2 cap2 z2:=And.intro w2 g2
 clear hA0 hval0
 refine (walk a0 a1 a2 len2 cap2 z2 W w0 w1 w2 (Jr hL hsh)).mono fun e W' ⟨he,bel⟩=>?_
 subst he
 exact ⟨_,rfl,_,_,_,[],_,[],hW',trodAll_mk1 (shut_bool Tryz.underlying4 _),(trodAll_cons_mk (shut_int Tryz.underlying3 w0) (trodAll_cons_mk (shut_string Tryz.underlying9 w1) (trodAll_cons_mk (Below.trod laidOut (by kernel_rfl) (of_decide_eq_true (by kernel_rfl)) k2 bel lt2) trodAll_mk0))),rfl,bel.frame _,fun h=>by cases h⟩
end Go.Proofs.YtmfapopclbnlpaaGreatDoor.urlSlashes
