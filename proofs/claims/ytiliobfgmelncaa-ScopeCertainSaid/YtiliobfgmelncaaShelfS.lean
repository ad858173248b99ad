/- The second shelf is laid with the first here. -/
import Derived.Test.YtiliobfgmelncaaShelf
