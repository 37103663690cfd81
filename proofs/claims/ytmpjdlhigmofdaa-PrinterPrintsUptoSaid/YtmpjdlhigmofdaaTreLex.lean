/-
  What IsName of the landed lexer returns, for a program that calls nothing else of the lexer. Condition: the text's length.
-/
import Derived.Test.YtmpjdlhigmofdaaLexPlain
import Derived.Test.YtmpjdlhigmofdaaKit
import Derived.Test.YtmpjdlhigmofdaaShelf
import Derived.Test.YtmpjdlhigmofdaaChecked
import Derived.Test.YtmpjdlhigmofdaaMLa
import Derived.Test.YtmpjdlhigmofdaaRefLex2
import Derived.Test.YtmpjdlhigmofdaaLexNum
namespace Go.Proofs.Ytmpjdlhigmofdaa










end Go.Proofs.Ytmpjdlhigmofdaa
